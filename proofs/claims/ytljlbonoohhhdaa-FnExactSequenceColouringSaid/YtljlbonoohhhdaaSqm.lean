/- The colouring of a sequence: what it is, and the program. -/
import Derived.Test.YtljlbonoohhhdaaCmp
import Derived.Test.YtljlbonoohhhdaaErd
import Derived.Test.YtljlbonoohhhdaaQs
namespace Go.Proofs.Ytljlbonoohhhdaa
set_option linter.unusedVariables false
set_option linter.unusedSimpArgs false
open Go Go.RowKit Go.Shelf Go.Proofs Go.Sort Go.Lib
/-- The colour of the edge of lo and hi. -/
def sqR (zs : List Int) (lo hi : Nat) : Int := if zs.getD lo 0 < zs.getD hi 0 then 0 else 1
theorem sqR_bd (zs : List Int) (lo hi : Nat) : 0 ≤ sqR zs lo hi ∧ sqR zs lo hi < 256 := by unfold sqR; split <;> omega
def sqOk (zs : List Int) : Bool := inB zs.length 1 17 && decide zs.Nodup
def sqCode (zs : List Int) : Int := if sqOk zs = true then 0 else 2
def sqN (zs : List Int) : Int := if sqOk zs = true then (zs.length : Int) else 0
def sqK (zs : List Int) : Int := if sqOk zs = true then 2 else 0
def sqB (zs : List Int) : List Nat := if sqOk zs = true then paintB zs.length (sqR zs) else zbl
/-- What SequenceColouring returns. -/
def sqOut (zs : List Int) : Value := .tuple #[.agg (ccells (sqN zs) (sqK zs) (sqB zs)).toArray, .int .i64 (sqCode zs)]
theorem sqOut_bad {zs : List Int} (h : sqOk zs = false) : sqOut zs = .tuple #[.agg (ccells 0 0 zbl).toArray, .int .i64 2] := by simp [sqOut, sqN, sqK, sqB, sqCode, h]
theorem sqOut_good {zs : List Int} (h : sqOk zs = true) : sqOut zs = .tuple #[.agg (ccells (zs.length : Int) 2 (paintB zs.length (sqR zs))).toArray, .int .i64 0] := by simp [sqOut, sqN, sqK, sqB, sqCode, h]
theorem sqB_bys (zs : List Int) : Bys (sqB zs) := by
  unfold sqB
  split
  · exact paintB_bys fun lo hi => sqR_bd zs lo hi
  · exact zbl_bys
theorem srt_nodup (zs : List Int) : decide (srt zs).Nodup = decide zs.Nodup := decide_eq_decide.2 (srt_perm zs).nodup_iff
theorem below_putRow {w w1 : World} {b g q : Nat} (d : Array Int) (hb : Below w.heap.size w w1) (hg : w.heap.size ≤ g) : Below w.heap.size w (putRow (Value.int .i64) (Sort.ahead w1 q) g 0 d) := by
  have e : putRow (Value.int .i64) (Sort.ahead w1 q) g 0 d = grow (putRow (Value.int .i64) (Sort.ahead w1 q) g 0 d) #[] := by simp [grow]; rfl
  rw [e]
  exact hb.grown (grownBy_sortedI _) hb.size (fun j hj => by cases hj; exact hg)
set_option maxRecDepth 100000 in
set_option maxHeartbeats 2000000 in
theorem seq24 (zs : List Int) (a : Option Addr) (cap : Nat) (w : World) (hs : SlI w a zs) (hl : zs.length ≤ 9223372036854775807) :
    Calls Try.prog 24 #[.slice a zs.length cap] w fun e w' => e = .returned (.bool (sqOk zs)) ∧ Below w.heap.size w w' := by
  cases hin : inB zs.length 1 17 with
  | false =>
    have HO := hidd (show sqOk zs = false by unfold sqOk; rw [hin]; rfl)
    have HI := hidd hin
    clear hin
    go_enter Try.func24, Try.ntmps24
    go_wp2_with (go_at_call 28; refine (win28 _ _ _ _).mono ?_; rintro e _ ⟨rfl, rfl⟩; rw [HI.out])
    go_ret
    exact ⟨by rw [HO.out]; rfl, Below.refl _ _⟩
  | true =>
    have HO := hidd (show sqOk zs = decide zs.Nodup by unfold sqOk; rw [hin]; rfl)
    have hb := inB_bd hin
    have HI := hidd hin
    have HSL := hidd (hs.below ((Below.refl w.heap.size w).alloc (Nat.le_refl _) (.cells #[.slice a zs.length cap] 22)) (Nat.le_refl _))
    have hz1 : 1 ≤ zs.length := by omega
    have hz2 : zs.length ≤ 17 := by omega
    clear hs hin hb
    go_enter Try.func24, Try.ntmps24
    go_wp2_with (first
      | (go_at_call 28; refine (win28 _ _ _ _).mono ?_; rintro e _ ⟨rfl, rfl⟩; rw [HI.out])
      | (go_at_call 42; refine (values84 a zs.length cap w).mono ?_; rintro e w' ⟨rfl, rfl⟩))
    refine (sorted83 w.heap.size zs a cap hz1 (by omega) _ (by simp) ((Blk.new w #[.slice a zs.length cap] 22 _ rfl).cell rfl) HSL.out).mono ?_
    rintro e w1 ⟨v, rfl, hown, hb1⟩
    have hl1 := srt_len zs
    have HB1 := hidd (((Below.refl w.heap.size w).alloc (Nat.le_refl _) (.cells #[.slice a zs.length cap] 22)).trans (hb1.mono (by simp)))
    rcases hown.2 with ⟨rfl, hz⟩ | ⟨gb, cap1, cur, rfl, hbase, hgb, r1, r2, r3, r4⟩
    · omega
    · have hH : Holds (Value.int .i64) w1 gb 0 (srt zs).toArray := holds_of_blockI hgb (by simpa [icells] using r4)
      have HC := hidd (compact43 gb 0 cap1 (srt zs) w1 hH (by omega) r1)
      have HK := hidd (show decide ((compactUpTo (srt zs).toArray (srt zs).length).length = zs.length) = decide zs.Nodup by
        have := compact_all_iff (srt zs) (srt_pair zs)
        rw [srt_nodup] at this
        rw [← this]
        congr 1
        rw [hl1])
      have HG := hidd (show w.heap.size ≤ gb by simp at hbase; omega)
      generalize compactUpTo (srt zs).toArray (srt zs).length = cs at HC HK
      clear hown hb1 hbase hgb r1 r2 r3 r4 hH hl1
      go_wp2_with fail
      refine HC.out.mono ?_
      rintro e w2 ⟨rfl, q, rfl⟩
      have HB2 := hidd (below_putRow (b := 0) (q := q) (cs ++ List.replicate ((srt zs).length - cs.length) 0).toArray HB1.out HG.out)
      by_cases hn : cs.length = zs.length
      · have HN := hidd (show decide zs.Nodup = true by rw [← HK.out]; simpa using hn)
        have hq : ((cs.length : Int) == (zs.length : Int)) = true := by rw [hn]; simp
        clear hn
        go_wp2_with fail
        go_ret
        exact ⟨by rw [HO.out, HN.out]; rfl, HB2.out⟩
      · have HN := hidd (show decide zs.Nodup = false by rw [← HK.out]; simpa using hn)
        have hq : ((cs.length : Int) == (zs.length : Int)) = false := by rw [beq_eq_false_iff_ne]; omega
        clear hn
        go_wp2_with fail
        go_ret
        exact ⟨by rw [HO.out, HN.out]; rfl, HB2.out⟩
set_option maxRecDepth 100000 in
set_option maxHeartbeats 1000000 in
theorem rule26 (zs : List Int) (a : Option Addr) (cap b0 : Nat) (W : World) (hl : zs.length ≤ 17) (hC : Blk W b0 #[.slice a zs.length cap] 22) (hs : SlI W a zs) (lo hi : Nat) (h1 : lo < hi) (h3 : hi < zs.length) :
    Calls Try.prog 26 #[.int .i64 (lo : Int), .int .i64 (hi : Int), .pointer (some ⟨b0, 0, none⟩)] W fun e W' => e = .returned (.int .i64 (sqR zs lo hi)) ∧ Below W.heap.size W W' := by
  have cB := hC.cell (j := 0) (show _ = some (Value.slice a zs.length cap) from rfl)
  rcases hs with hs | ⟨b, off, rfl, hc⟩
  · subst hs; simp at h3
  · have HV := hidd (show sqR zs lo hi = if zs.getD lo 0 < zs.getD hi 0 then 0 else 1 from rfl)
    have cx := hc lo (by omega)
    have cy := hc hi h3
    have hlo : lo < zs.length := by omega
    generalize sqR zs lo hi = v at HV ⊢
    generalize zs.getD lo 0 = x at HV cx
    generalize zs.getD hi 0 = y at HV cy
    have l0 : (0 : Int) ≤ (lo : Int) := by omega
    have l2 : (0 : Int) ≤ (hi : Int) := by omega
    clear hc hC
    by_cases hxy : x < y
    · have hv := HV.out
      rw [if_pos hxy] at hv
      subst hv
      have hd : decide (x < y) = true := by simpa using hxy
      clear hxy
      go_enter Try.func26, Try.ntmps26
      go_wp2_with fail
      go_quiet (fail)
      go_wp2
      go_ret
      exact ⟨rfl, below_drewN (Below.refl _ _) _⟩
    · have hv := HV.out
      rw [if_neg hxy] at hv
      subst hv
      have hd : decide (x < y) = false := by simpa using hxy
      clear hxy
      go_enter Try.func26, Try.ntmps26
      go_wp2_with fail
      go_quiet (fail)
      go_wp2
      go_ret
      exact ⟨rfl, below_drewN (Below.refl _ _) _⟩
theorem ruleOf26 (zs : List Int) (a : Option Addr) (cap b0 : Nat) (w : World) (hl : zs.length ≤ 17) (hC : Blk w b0 #[.slice a zs.length cap] 22) (hs : SlI w a zs) :
    Rule zs.length 26 #[.pointer (some ⟨b0, 0, none⟩)] (sqR zs) w := by
  intro x W hbl
  obtain ⟨hx1, hx2, hx3⟩ := x.2
  exact rule26 zs a cap b0 W hl (hC.below hbl hC.lt) (hs.below hbl (Nat.le_refl _)) x.1.2.1 x.1.2.2 hx2 hx3
set_option maxRecDepth 100000 in
set_option maxHeartbeats 2000000 in
theorem impl9 (zs : List Int) (a : Option Addr) (cap : Nat) (w : World) (hs : SlI w a zs) (hl : zs.length ≤ 9223372036854775807) :
    Calls Try.prog 9 #[.slice a zs.length cap] w fun e w' => e = .returned (sqOut zs) ∧ Below w.heap.size w w' := by
  have Hz := zero26
  have hmf : ∀ (fn : Fn) (first cap : Array Value) (w : World), (Instr.makeFunc fn first cap).run Try.prog w = .ok (.func fn first cap) w := fun _ _ _ _ => rfl
  have HZS := hidd size_z26
  have HZ1 := hidd (ccells_one 0 0 zbl)
  have hW : ∀ W, W = ((w.alloc (.cells #[.slice a zs.length cap] 22)).alloc (.cells (ccells 0 0 zbl).toArray 25)) →
      Blk W w.heap.size #[.slice a zs.length cap] 22 ∧ Blk W (w.heap.size + 1) (ccells 0 0 zbl).toArray 25 ∧ Below w.heap.size w W := by
    rintro W rfl
    exact ⟨(Blk.new _ _ _ _ (by simp)).alloc _, Blk.new _ _ _ _ (by simp), ((Below.refl _ _).alloc (Nat.le_refl _) _).alloc (by simp) _⟩
  have HW := hidd (hW _ rfl)
  have c0 := HW.out.1.cell (j := 0) (show _ = some (Value.slice a zs.length cap) from rfl)
  have HSL := hidd (hs.below HW.out.2.2 (Nat.le_refl _))
  clear hs hW
  cases hok : sqOk zs with
  | false =>
    have H := hidd (sqOut_bad hok)
    have HK := hidd hok
    clear hok
    go_enter Try.func9, Try.ntmps9
    go_wp2_with fail
    refine (seq24 zs a cap _ HSL.out hl).mono ?_
    rintro e w1 ⟨rfl, hb1⟩
    rw [HK.out]
    have z1 := HW.out.2.1.below hb1 HW.out.2.1.lt
    have b1 := HW.out.2.2.trans (hb1.mono HW.out.2.2.size)
    have R := hidd (And.intro z1 (And.intro (z1.rowSame (ccells 0 0 zbl).toArray) (below_setRow b1 (g := w.heap.size + 1) (by omega) (ccells 0 0 zbl).toArray)))
    clear hb1 z1 b1 c0
    go_wp2_with (first
      | (refine wpList_zero26 rfl rfl ?_)
      | (refine wpList_store_row rfl 25 (.tmp 2) (.tmp 7) rfl (w.heap.size + 1) _ rfl rfl 25 _ R.out.1 HZS.out rfl HZ1.out ?_))
    exact ret_col rfl zbl_bys rfl R.out.2.1 rfl rfl ⟨by rw [H.out]; rfl, R.out.2.2⟩
  | true =>
    have H := hidd (sqOut_good hok)
    have hn : 1 ≤ zs.length ∧ zs.length ≤ 17 := by
      unfold sqOk at hok
      rw [Bool.and_eq_true] at hok
      have := inB_bd hok.1
      omega
    have HK := hidd hok
    obtain ⟨PB, hPB⟩ : ∃ PB, PB = paintB zs.length (sqR zs) := ⟨_, rfl⟩
    rw [← hPB] at H
    have HPB := hidd (show Bys PB by rw [hPB]; exact paintB_bys fun lo hi => sqR_bd zs lo hi)
    have HPS := hidd (size_c26 (zs.length : Int) 2 HPB.out)
    have HPO := hidd (size_cc 0 0 (zs.length : Int) 2 zbl_bys HPB.out)
    have HPA := hidd (ccells_one (zs.length : Int) 2 PB)
    have HPT := hidd (fun W lb h => paint52 zs.length 2 26 lb (sqR zs) W hn.1 hn.2 (fun x => sqR_bd zs _ _) (enters_of Try.func26 (by kernel_rfl) rfl) h)
    rw [← hPB] at HPT
    have HRO := hidd (fun b0 W h1 h2 => ruleOf26 zs a cap b0 W hn.2 h1 h2)
    clear hok hPB
    go_enter Try.func9, Try.ntmps9
    go_wp2_with fail
    refine (seq24 zs a cap _ HSL.out hl).mono ?_
    rintro e w1 ⟨rfl, hb1⟩
    rw [HK.out]
    have G1 := hidd (And.intro (HW.out.1.below hb1 HW.out.1.lt) (And.intro (HW.out.2.1.below hb1 HW.out.2.1.lt) (And.intro (HW.out.2.2.trans (hb1.mono HW.out.2.2.size)) (HSL.out.below hb1 (Nat.le_refl _)))))
    have c1 := G1.out.1.cell (j := 0) (show _ = some (Value.slice a zs.length cap) from rfl)
    clear hb1 c0
    go_wp2_with fail
    refine (HPT.out _ _ (HRO.out _ _ G1.out.1 G1.out.2.2.2)).mono ?_
    rintro e w2 ⟨rfl, hb2⟩
    have z2 := G1.out.2.1.below hb2 G1.out.2.1.lt
    have b2 := G1.out.2.2.1.trans (hb2.mono G1.out.2.2.1.size)
    have R := hidd (And.intro z2 (And.intro (z2.rowSame (ccells (zs.length : Int) 2 PB).toArray) (below_setRow b2 (g := w.heap.size + 1) (by omega) (ccells (zs.length : Int) 2 PB).toArray)))
    clear hb2 z2 b2 c1
    go_wp2_with (refine wpList_store_row rfl 25 (.tmp 2) (.tmp 11) rfl (w.heap.size + 1) _ rfl rfl 25 _ R.out.1 HPS.out HPO.out HPA.out ?_)
    exact ret_col rfl HPB.out rfl R.out.2.1 rfl rfl ⟨by rw [H.out]; rfl, R.out.2.2⟩
end Go.Proofs.Ytljlbonoohhhdaa
