/- For every argument the law FnExactRenumberPosition returns true: RenumberPosition answers as its model does, leaves both lists as they were, and each answer is a list of its own. No condition beside the row's own. -/
import Derived.Test.YteclbaalejondaaGe
import Derived.Test.YteclbaalejondaaOnly
import Derived.Test.YteclbaalejondaaRno
import Derived.Test.YteclbaalejondaaHld
namespace Go.Proofs.Yteclbaalejondaa
set_option linter.unusedVariables false
set_option linter.unusedSimpArgs false
open Go Go.RowKit Go.ChangeShapes Go.WideShapes Go.ChangeAt
set_option maxRecDepth 100000 in
set_option maxHeartbeats 400000 in
theorem mark29w (n : Nat) (a : Option Addr) (cap : Nat) (B : Nat) (k : Int) (zs : List Int) (w : World) (hz : zs.length = n) (h : OwnL w B a zs) (hn : n ≤ 1048576) (hk0 : 0 ≤ k) (hk1 : k ≤ 4194304) :
    Calls Try.prog 20 #[.slice a n cap, .int .i64 k] w fun e w' => e = .returned (.int .i64 (k + n)) ∧ OwnL w' B a (marks k n) ∧ MkOnly zs a w w' := by
  rcases h with h | ⟨g, C, h1, h2, h3, h4, h5⟩
  · subst h
    simp at hz
    subst hz
    go_enter Try.func20, Try.ntmps20
    go_wp2
    refine wp_loop_rounds 1 ?_
    rw [rounds_succ]
    go_wp2
    go_ret
    exact ⟨by simp, .inl rfl, fun h => absurd rfl h, fun _ => rfl⟩
  · subst h2
    rw [hz] at h4
    have HNZ := hidd (show zs = [] → n = 0 from fun e => by rw [← hz, e]; rfl)
    clear h5 hz
    have hk := h3.lt
    go_enter Try.func20, Try.ntmps20
    go_wp2_with fail
    go_loopw [1, 5] (fun kk i wr => ∃ j : Nat, j ≤ n ∧ i = .int .i64 j ∧ kk = .int .i64 (k + j) ∧ Hid ((∃ D, RelM2 C k g w j D wr) ∧ (j = 0 → w = wr))) (fun _ i _ => n - (intOf i).toNat)
    case atStart => exact ⟨0, by omega, rfl, by simp, ⟨C, h3, rfl, fun m hm => absurd hm (by omega), Below.refl _ _, fun _ _ => rfl⟩, fun _ => rfl⟩
    case round =>
      obtain ⟨j, hj, rfl, rfl, HD⟩ := hrel
      obtain ⟨D, HR0⟩ := HD.out.1
      have HJ := hidd HD.out.2
      have HR := hidd HR0
      clear HD HR0
      by_cases hlt : j < n
      · obtain ⟨old, ho⟩ : ∃ old, wr.cell? ⟨g, j, none⟩ = some old := ⟨_, HR.out.1.cell (Array.getElem?_eq_getElem (by rw [HR.out.2.1]; omega))⟩
        have hf := HR.out.1.fro j
        have K := hidd (show RelM2 C k g w (j + 1) (D.setIfInBounds j (.int .i64 (k + (j : Int)))) (wr.setCell ⟨g, j, none⟩ (.int .i64 (k + (j : Int)))) from
          ⟨HR.out.1.same _ _, by simp [HR.out.2.1], fun m hm => by
            rw [Array.getElem?_setIfInBounds]
            by_cases e : j = m
            · subst e; rw [if_pos rfl, if_pos (by rw [HR.out.2.1]; omega)]
            · rw [if_neg e]; exact HR.out.2.2.1 m (by omega), HR.out.2.2.2.1.setCell (Nat.le_refl _) _, fun b hb => (heap_setCell_other wr ⟨g, j, none⟩ b _ hb).trans (HR.out.2.2.2.2 b hb)⟩)
        clear HR
        go_wp2_with fail
        go_roundw
        case rel => exact ⟨j + 1, by omega, by go_num, by congr 1; omega, ⟨_, K.out⟩, fun e => by omega⟩
        case measure => simp [intOf]; omega
      · have hje : j = n := by omega
        subst hje
        go_wp2_with fail
        go_ret
        exact ⟨rfl, .inr ⟨g, D, h1, rfl, HR.out.1, by rw [marks_len, HR.out.2.1]; exact h4, fun m hm => by
          rw [marks_len] at hm
          rw [HR.out.2.2.1 m hm, marks_get hm]⟩, fun _ => ⟨fun B' _ hB' => HR.out.2.2.2.1.mono (hB' _ rfl), fun b hb => HR.out.2.2.2.2 b (hb _ rfl)⟩, fun e => HJ.out (HNZ.out e)⟩
/-- What lies on the heap beside the lists that came in: both answers, both copies. -/
def StL (w : World) (zs ps rs : List Int) (B0 b1 b2 B1 : Nat) (a0 a1 : Option Addr) (W : World) : Prop :=
  Below w.heap.size w W ∧ OwnL W B0 a0 rs ∧ Blk W b1 (icells zs).toArray 2 ∧ Blk W b2 (icells ps).toArray 2 ∧ OwnL W B1 a1 rs
theorem StL.go {w : World} {zs ps rs : List Int} {B0 b1 b2 B1 : Nat} {a0 a1 : Option Addr} {W W' : World} (h : StL w zs ps rs B0 b1 b2 B1 a0 a1 W) (hb : Below W.heap.size W W') : StL w zs ps rs B0 b1 b2 B1 a0 a1 W' :=
  ⟨h.1.trans (hb.mono h.1.size), h.2.1.below hb (Nat.le_refl _), h.2.2.1.below hb h.2.2.1.lt, h.2.2.2.1.below hb h.2.2.2.1.lt, h.2.2.2.2.below hb (Nat.le_refl _)⟩
set_option maxRecDepth 100000 in
set_option maxHeartbeats 4000000 in
theorem walk9 (n : Int) (_ : -9223372036854775808 ≤ n) (_ : n ≤ 9223372036854775807) (a : Option Addr) (zs : List Int) (cap : Nat) (ap : Option Addr) (ps : List Int) (capp : Nat) (w : World) (hs : SlI w a zs) (hl : zs.length ≤ 9223372036854775807) (hp : SlI w ap ps) (hpl : ps.length ≤ 9223372036854775807) :
    Calls Try.prog 9 #[.int .i64 n, .slice a zs.length cap, .slice ap ps.length capp] w fun e w' => e = .returned (.bool true) ∧ Below w.heap.size w w' := by
  by_cases hbig : 1048576 < zs.length
  · go_enter Try.func9, Try.ntmps9
    go_wp2
    go_ret
    exact ⟨rfl, Below.refl _ _⟩
  by_cases hbig2 : 1048576 < ps.length
  · have hsm : zs.length ≤ 1048576 := by omega
    go_enter Try.func9, Try.ntmps9
    go_wp2
    go_ret
    exact ⟨rfl, Below.refl _ _⟩
  · have hsm : zs.length ≤ 1048576 := by omega
    have hpm : ps.length ≤ 1048576 := by omega
    have hS := fun b cap pb capp w hs hp => spec26v n zs ps b cap pb capp w hs hp hl hpl
    have hI := fun b cap pb capp w hbw hpw hs hp => impl27v n zs ps b cap pb capp w hbw hpw hs hp hl hpl
    have hlr : (rpLs n zs ps).length ≤ 1000 := rpc_len
    generalize rpLs n zs ps = rs at hS hI hlr
    generalize rpCd n zs ps = cd at hS hI
    have HSP := hidd hS
    have HIM := hidd hI
    have HSL := hidd hs
    have HPL := hidd hp
    clear hS hI hs hp
    have hne : (cd != cd) = false := by simp
    have hm : ((1 + (rs.length : Int)) != (1 + (rs.length : Int))) = false := by simp
    have hk0 : decide (1 + (zs.length : Int) + (ps.length : Int) < 0) = false := by simp; omega
    go_enter Try.func9, Try.ntmps9
    go_wp2_with fail
    refine (copy19 zs a cap _ HSL.out hsm).mono ?_
    rintro e w1 ⟨rfl, hk1, hb1⟩
    have G1 := hidd (And.intro hb1 hk1)
    clear hk1 hb1
    go_wp2_with fail
    refine (copy19 ps ap capp _ (HPL.out.below G1.out.1 (Nat.le_refl _)) hpm).mono ?_
    rintro e w2 ⟨rfl, hk2, hb2⟩
    have G2 := hidd (And.intro (G1.out.1.trans (hb2.mono G1.out.1.size)) (And.intro (sl_of_blk (G1.out.2.below hb2 G1.out.2.lt)) (sl_of_blk hk2)))
    clear hk2 hb2
    go_wp2_with fail
    refine (HSP.out _ _ _ _ _ G2.out.2.1 G2.out.2.2).mono ?_
    rintro e w3 ⟨a0, cap0, rfl, o0, hb3⟩
    have G3 := hidd (And.intro (G2.out.1.trans (hb3.mono G2.out.1.size)) (And.intro o0 (fun h0 => o0.lt h0)))
    clear hb3 o0
    go_wp2_with fail
    refine (copy19 zs a cap _ (HSL.out.below G3.out.1 (Nat.le_refl _)) hsm).mono ?_
    rintro e w4 ⟨rfl, hk4, hb4⟩
    have G4 := hidd (And.intro (G3.out.1.trans (hb4.mono G3.out.1.size)) (And.intro (G3.out.2.1.below hb4 (Nat.le_refl _)) (And.intro hk4 hk4.lt)))
    clear hk4 hb4
    go_wp2_with fail
    refine (copy19 ps ap capp _ (HPL.out.below G4.out.1 (Nat.le_refl _)) hpm).mono ?_
    rintro e w5 ⟨rfl, hk5, hb5⟩
    have G5 := hidd (And.intro (G4.out.1.trans (hb5.mono G4.out.1.size)) (And.intro (G4.out.2.1.below hb5 (Nat.le_refl _)) (And.intro (G4.out.2.2.1.below hb5 G4.out.2.2.2) (And.intro hk5 hk5.lt))))
    clear hk5 hb5
    go_wp2_with fail
    refine (HIM.out _ _ _ _ _ G5.out.2.2.1.lt G5.out.2.2.2.2 (sl_of_blk G5.out.2.2.1) (sl_of_blk G5.out.2.2.2.1)).mono ?_
    rintro e w6 ⟨a1, cap1, rfl, o1, hb6⟩
    have G6 := hidd (show StL w zs ps rs w2.heap.size w3.heap.size w4.heap.size w5.heap.size a0 a1 w6 from
      ⟨G5.out.1.trans (hb6.mono G5.out.1.size), G5.out.2.1.below hb6 (Nat.le_refl _), G5.out.2.2.1.below hb6 G5.out.2.2.1.lt, G5.out.2.2.2.1.below hb6 G5.out.2.2.2.2, o1⟩)
    have HGE := hidd (fun h0 => o1.ge h0)
    clear hb6 o1
    go_wp2_with fail
    refine (eq22 rs a1 a0 _ _ _ G6.out.2.2.2.2.sl G6.out.2.1.sl (by omega)).mono ?_
    rintro e w7 ⟨rfl, hb7⟩
    have G7 := hidd (G6.out.go hb7)
    clear hb7
    go_wp2_with fail
    refine (copy19 zs a cap _ (HSL.out.below G7.out.1 (Nat.le_refl _)) hsm).mono ?_
    rintro e w8 ⟨rfl, hk8, hb8⟩
    have G8 := hidd (And.intro (G7.out.go hb8) hk8)
    clear hk8 hb8
    go_wp2_with fail
    refine (eq22 zs _ _ _ _ _ (sl_of_blk G8.out.1.2.2.1) (sl_of_blk G8.out.2) hsm).mono ?_
    rintro e w9 ⟨rfl, hb9⟩
    have G9 := hidd (G8.out.1.go hb9)
    clear hb9
    go_wp2_with fail
    refine (copy19 ps ap capp _ (HPL.out.below G9.out.1 (Nat.le_refl _)) hpm).mono ?_
    rintro e w10 ⟨rfl, hk10, hb10⟩
    have G10 := hidd (And.intro (G9.out.go hb10) hk10)
    clear hk10 hb10
    go_wp2_with fail
    refine (eq22 ps _ _ _ _ _ (sl_of_blk G10.out.1.2.2.2.1) (sl_of_blk G10.out.2) hpm).mono ?_
    rintro e w11 ⟨rfl, hb11⟩
    have G11 := hidd (G10.out.1.go hb11)
    clear hb11
    have hs23 := hidd G3.out.1.size
    have HB12 := hidd (show w3.heap.size < w4.heap.size from G4.out.2.2.2)
    have HB25 := hidd (show w4.heap.size < w5.heap.size from G5.out.2.2.2.2)
    go_wp2_with fail
    have HO11 := hidd (own_blk0 (B := w3.heap.size) G11.out.2.2.1 (Nat.le_refl _))
    refine (mark29w zs.length (some ⟨w3.heap.size, 0, none⟩) _ w3.heap.size 1 zs _ rfl HO11.out hsm (by omega) (by omega)).mono ?_
    rintro e w12 ⟨rfl, _, mk12⟩
    have G12 := hidd (show Below w.heap.size w w12 ∧ OwnL w12 w2.heap.size a0 rs ∧ Blk w12 w4.heap.size (icells ps).toArray 2 ∧ OwnL w12 w5.heap.size a1 rs from
      ⟨G11.out.1.trans ((mk12.below HO11.out (Nat.le_of_lt G11.out.2.2.1.lt)).mono G3.out.1.size),
       mk12.own G11.out.2.1 (fun _ h0 p q hp hq => by cases hp; exact Nat.ne_of_lt (G3.out.2.2 h0 q hq)),
       mk12.blk G11.out.2.2.2.1 (fun _ p hp => by cases hp; exact Nat.ne_of_gt HB12.out),
       mk12.own G11.out.2.2.2.2 (fun _ h0 p q hp hq => by cases hp; exact Nat.ne_of_gt (Nat.lt_of_lt_of_le (Nat.lt_trans HB12.out HB25.out) (HGE.out h0 q hq)))⟩)
    clear mk12
    go_wp2_with fail
    have HO12 := hidd (own_blk0 (B := w4.heap.size) G12.out.2.2.1 (Nat.le_refl _))
    refine (mark29w ps.length (some ⟨w4.heap.size, 0, none⟩) _ w4.heap.size (1 + (zs.length : Int)) ps _ rfl HO12.out hpm (by omega) (by omega)).mono ?_
    rintro e w13 ⟨rfl, _, mk13⟩
    have G13 := hidd (show Below w.heap.size w w13 ∧ OwnL w13 w2.heap.size a0 rs ∧ OwnL w13 w5.heap.size a1 rs from
      ⟨G12.out.1.trans ((mk13.below HO12.out (Nat.le_of_lt G12.out.2.2.1.lt)).mono G4.out.1.size),
       mk13.own G12.out.2.1 (fun _ h0 p q hp hq => by cases hp; exact Nat.ne_of_lt (Nat.lt_trans (G3.out.2.2 h0 q hq) HB12.out)),
       mk13.own G12.out.2.2.2 (fun _ h0 p q hp hq => by cases hp; exact Nat.ne_of_gt (Nat.lt_of_lt_of_le HB25.out (HGE.out h0 q hq)))⟩)
    clear mk13
    go_wp2_with fail
    refine (eq22 rs a1 a0 _ _ _ G13.out.2.2.sl G13.out.2.1.sl (by omega)).mono ?_
    rintro e w14 ⟨rfl, hb14⟩
    have G14 := hidd (show Below w.heap.size w w14 ∧ OwnL w14 w2.heap.size a0 rs ∧ OwnL w14 w5.heap.size a1 rs from
      ⟨G13.out.1.trans (hb14.mono G13.out.1.size), G13.out.2.1.below hb14 (Nat.le_refl _), G13.out.2.2.below hb14 (Nat.le_refl _)⟩)
    clear hb14
    go_wp2_with fail
    refine (mark29o rs.length a1 _ w5.heap.size 1 rs _ rfl G14.out.2.2 (by omega) (by omega) (by omega)).mono ?_
    rintro e w15 ⟨rfl, o15, mk15⟩
    have G15 := hidd (show Below w.heap.size w w15 ∧ OwnL w15 w2.heap.size a0 rs ∧ OwnL w15 w5.heap.size a1 (marks 1 rs.length) from
      ⟨G14.out.1.trans (mk15.below (B := w.heap.size) (OwnL.bas G14.out.2.2 G5.out.1.size) G14.out.1.size),
       mk15.own G14.out.2.1 (fun _ h0 p q hp hq => Nat.ne_of_lt (Nat.lt_of_lt_of_le (Nat.lt_trans (Nat.lt_trans (G3.out.2.2 h0 q hq) HB12.out) HB25.out) (HGE.out h0 p hp))), o15⟩)
    clear mk15 o15
    go_wp2_with fail
    refine (held30 rs.length a1 _ w5.heap.size 1 _ G15.out.2.2 (by omega) (by omega) (by omega)).mono ?_
    rintro e w' ⟨rfl, rfl⟩
    go_wp2_with fail
    refine (copy19 zs a cap _ (HSL.out.below G15.out.1 (Nat.le_refl _)) hsm).mono ?_
    rintro e w16 ⟨rfl, hk16, hb16⟩
    have G16 := hidd (And.intro (G15.out.1.trans (hb16.mono G15.out.1.size)) (And.intro (G15.out.2.1.below hb16 (Nat.le_refl _)) (And.intro (G15.out.2.2.below hb16 (Nat.le_refl _)) hk16)))
    clear hk16 hb16
    go_wp2_with fail
    refine (copy19 ps ap capp _ (HPL.out.below G16.out.1 (Nat.le_refl _)) hpm).mono ?_
    rintro e w17 ⟨rfl, hk17, hb17⟩
    have G17 := hidd (And.intro (G16.out.1.trans (hb17.mono G16.out.1.size)) (And.intro (G16.out.2.1.below hb17 (Nat.le_refl _)) (And.intro (G16.out.2.2.1.below hb17 (Nat.le_refl _)) (And.intro (G16.out.2.2.2.below hb17 G16.out.2.2.2.lt) hk17))))
    clear hk17 hb17
    go_wp2_with fail
    refine (HIM.out _ _ _ _ _ G17.out.2.2.2.1.lt G17.out.2.2.2.2.lt (sl_of_blk G17.out.2.2.2.1) (sl_of_blk G17.out.2.2.2.2)).mono ?_
    rintro e w18 ⟨a2, cap2, rfl, o18, hb18⟩
    have G18 := hidd (And.intro (G17.out.1.trans (hb18.mono G17.out.1.size)) (And.intro (G17.out.2.1.below hb18 (Nat.le_refl _)) (And.intro (G17.out.2.2.1.below hb18 (Nat.le_refl _)) o18)))
    clear hb18 o18
    go_wp2_with fail
    refine (eq22 rs a2 a0 _ _ _ G18.out.2.2.2.sl G18.out.2.1.sl (by omega)).mono ?_
    rintro e w19 ⟨rfl, hb19⟩
    have G19 := hidd (And.intro (G18.out.1.trans (hb19.mono G18.out.1.size)) (G18.out.2.2.1.below hb19 (Nat.le_refl _)))
    clear hb19
    go_wp2_with fail
    refine (held30 rs.length a1 _ w5.heap.size 1 _ G19.out.2 (by omega) (by omega) (by omega)).mono ?_
    rintro e w' ⟨rfl, rfl⟩
    go_wp2
    go_ret
    exact ⟨rfl, G19.out.1⟩
set_option maxRecDepth 100000 in
theorem lifted9 (os : Os) (started : os.Started) (H : Type) (enc : TypeId × Value → H) :
    ReturnsInHanded {} Try.checked os 9 .any (Rows.fnExactRenumberPositionSpec.pre6 enc Try.prog Try.f9 Rows.fnExactRenumberPositionRow.domain false) (Rows.fnExactRenumberPositionSpec.post enc Try.prog Try.f9 false true false false) := by
  refine returnsInHanded_of_change (C := Try.checked) own started (by kernel_rfl) Try.func9
    (ChangeSpec.witness6 (enc := enc) (C := Try.checked) false ⟨#[], #[.int .i64 0, .slice none 0 0, .slice none 0 0], []⟩ 8 (by kernel_rfl) (by kernel_rfl) (by kernel_rfl) (by kernel_rfl)) ?_
  intro W base args ds gs before hval0 hW hcnd _
  have hval : ∀ (j : Nat) t v, Try.f9.params[j]? = some t → args[j]? = some v → Value.okWide Try.prog W .any base t v := hval0
  have hW' := hW
  obtain ⟨p, q, hA0, hV, rfl, hfz, hnd⟩ := hW
  have hA : DataW.TrodAll enc Try.prog W 0 (fun _ => true) true Try.f9.params.toList args.toList ds p := hA0
  rw [Try.params9] at hA hval
  obtain ⟨v0, vs0, d0, ds0, p0, q0, hargs, rfl, rfl, h0, r0⟩ := trodAll_cons hA
  obtain ⟨v1, vs1, d1, ds1, p1, q1, rfl, rfl, rfl, h1, r1⟩ := trodAll_cons r0
  obtain ⟨v2, vs2, d2, ds2, p2, q2, rfl, rfl, rfl, h2, r2⟩ := trodAll_cons r1
  obtain ⟨rfl, rfl, rfl⟩ := trodAll_nil r2
  obtain rfl : args = #[v0, v1, v2] := by cases args; simp_all
  obtain ⟨rfl, rfl⟩ := trodVars_none hV
  have k0 := h0
  have lt0 := lt_of_trod k0
  obtain ⟨a0, rfl, x0, y0⟩ := open_num (hval 0 2 v0 rfl rfl) h0
  have k1 := h1
  have lt1 := lt_of_trod k1
  obtain ⟨a1, zs1, cap1, rfl, hs1, hl1, hz1⟩ := open_list (hval 1 22 v1 rfl rfl) h1
  have k2 := h2
  have lt2 := lt_of_trod k2
  obtain ⟨a2, zs2, cap2, rfl, hs2, hl2, hz2⟩ := open_list (hval 2 22 v2 rfl rfl) h2
  clear hA0 hval0
  refine (walk9 a0 x0 y0 a1 zs1 cap1 a2 zs2 cap2 W hs1 hl1 hs2 hl2).mono fun e W' ⟨he, bel⟩ => ?_
  subst he
  exact ⟨_, rfl, _, _, _, [], _, [], hW', trodAll_mk1 (shut_bool Try.underlying4 _), (trodAll_cons_mk (Below.trod laidOut read2 row2 k0 bel lt0) (trodAll_cons_mk (Below.trod laidOut read29 row29 k1 bel lt1) (trodAll_cons_mk (Below.trod laidOut read29 row29 k2 bel lt2) trodAll_mk0))), rfl, bel.frame _, fun h => by cases h⟩
theorem fnExactRenumberPosition_holds : Rows.FnExactRenumberPositionSaid :=
  OpenClaim.holds_of_wide 9 Try.f9 rfl rfl rfl rfl rfl rfl rfl ⟨rfl, rfl, rfl, rfl, rfl⟩ rfl rfl rfl rfl rfl (by kernel_rfl) Try.func9 (by kernel_rfl)
    (of_decide_eq_true (by kernel_rfl)) (by unfold Func.isWrapper; first | (rw [if_pos (by decide +kernel)]; kernel_rfl) | (rw [if_neg (by decide +kernel)]; exact ⟨rfl, rfl⟩))
    (fun os started H enc _ => lifted9 os started H enc)
#print axioms fnExactRenumberPosition_holds
end Go.Proofs.Yteclbaalejondaa
