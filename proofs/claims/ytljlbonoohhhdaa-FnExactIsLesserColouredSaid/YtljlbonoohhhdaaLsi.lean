/- Lesser-coloured sets: the program's test, and both functions. -/
import Derived.Test.YtljlbonoohhhdaaLsr
import Derived.Test.YtljlbonoohhhdaaErd
namespace Go.Proofs.Ytljlbonoohhhdaa
set_option linter.unusedVariables false
set_option linter.unusedSimpArgs false
open Go Go.RowKit Go.Shelf
attribute [local go_sem] Oper.semAt_some
theorem slice22f (b o len cap j : Nat) (h : j ≤ len) (h2 : len ≤ cap) : ∃ x, (j < cap → x = o + j) ∧ ∀ w, (Instr.sliceAt 22 (.slice (some ⟨b, o, none⟩) len cap) (some (.int .i64 ((j : Nat) : Int))) none none).run Try.prog w = .ok (.slice (some ⟨b, x, none⟩) (len - j) (cap - j)) w := by
  refine ⟨if cap = j then o else o + j, fun hj => by rw [if_neg (by omega)], fun w => ?_⟩
  simp [Instr.sliceAt, Instr.slice, Instr.sureAddr, Instr.sliceBounds, Instr.sliceBound, Sem.run_bind, run_underlying Try.underlying22, asIntOf, h, h2, Result.andThen, Addr.add]
  by_cases e : cap = j
  · simp [e]
  · by_cases e0 : j = 0
    · simp [e, e0]
    · simp [e, e0]
set_option maxRecDepth 100000 in
set_option maxHeartbeats 4000000 in
theorem les34 (n k : Int) (bs : List Nat) (hb : Bys bs) (zs : List Int) (a : Option Addr) (cap : Nat) (w : World) (hs : SlI w a zs) (hl : zs.length ≤ 17) (hcap : zs.length ≤ cap) (n2 : n ≤ 17) (hset : setB zs n = true) :
    Calls Try.prog 34 #[.agg (ccells n k bs).toArray, .slice a zs.length cap] w fun e w' => e = .returned (.bool (lesB bs zs)) ∧ Below w.heap.size w w' := by
  have HS := hidd (size_c26 n k hb)
  have HSET := hidd hset
  clear hset
  rcases hs with hz | ⟨b, off, ha, hc⟩
  · have HT := hidd (lesB_yes (bs := bs) (zs := zs) (fun i hi => by subst hz; simp at hi))
    have h0 : zs.length = 0 := by rw [hz]; rfl
    generalize zs.length = L at *
    subst h0
    clear hz
    go_enter Try.func34, Try.ntmps34
    go_wp2_with fail
    go_loopw [12] (fun e wr => e = .int .i64 0 ∧ Below w.heap.size w wr) (fun _ _ => 0)
    case atStart => exact ⟨rfl, (Below.refl _ _).alloc (Nat.le_refl _) _⟩
    case round =>
      obtain ⟨rfl, HR⟩ := hrel
      go_wp2
      go_ret
      exact ⟨by rw [HT.out]; rfl, HR⟩
  · subst ha
    have G := hidd (show RelLs (ccells n k bs).toArray zs b off w (w.alloc (.cells (ccells n k bs).toArray 25)) from
      ⟨Blk.new _ _ _ _ rfl, fun j hj => by
        have hs : SlI w (some ⟨b, off, none⟩) zs := .inr ⟨b, off, rfl, hc⟩
        rcases hs.below ((Below.refl w.heap.size w).alloc (Nat.le_refl _) (.cells (ccells n k bs).toArray 25)) (Nat.le_refl _) with hz | ⟨b', off', ha, hc⟩
        · subst hz; simp at hj
        · cases ha; exact hc j hj, (Below.refl w.heap.size w).alloc (Nat.le_refl _) _⟩)
    clear hc
    go_enter Try.func34, Try.ntmps34
    go_wp2_with fail
    go_loopw [12] (fun e wr => ∃ j : Nat, j ≤ zs.length ∧ e = .int .i64 j ∧ Hid (Les bs zs j) ∧ RelLs (ccells n k bs).toArray zs b off w wr) (fun e _ => zs.length - (intOf e).toNat)
    case atStart => exact ⟨0, by omega, rfl, fun i hi => by omega, G.out⟩
    case round =>
      obtain ⟨j, hj, rfl, HC, HR⟩ := hrel
      have HK := hidd HR
      clear HR
      by_cases hlt : j < zs.length
      · have hcj := HK.out.2.1 j hlt
        obtain ⟨y, hy⟩ : ∃ y, y = zs.getD j 0 := ⟨_, rfl⟩
        rw [← hy] at hcj
        have HYE := hidd hy
        clear hy
        have hwj : IntKind.i64.wrap ((j : Int) + 1) = ((j + 1 : Nat) : Int) := IntWalk.i64_in _ (by omega)
        by_cases hcc : cap = j + 1
        · have hle : zs.length = j + 1 := by omega
          have HL := hidd (show Les bs zs (j + 1) from HC.out.step (LesR.start bs zs j) (by omega))
          have hno : (zs.length : Int) - ((j : Int) + 1) = 0 := by omega
          go_wp2_with fail
          go_loopw [23] (fun e wr => e = .int .i64 0 ∧ RelLs (ccells n k bs).toArray zs b off w wr) (fun _ _ => 0)
          case atStart => exact ⟨rfl, HK.out⟩
          case round =>
            obtain ⟨rfl, HR⟩ := hrel
            have HK2 := hidd HR
            clear HR
            go_wp2_with fail
            go_roundw
            case rel => exact ⟨j + 1, by omega, by go_num, HL, HK2.out⟩
            case measure => simp [intOf]; omega
        go_wp2_with fail
        clear hcj
        go_loopw [23] (fun e wr => ∃ m : Nat, j + 1 ≤ m ∧ m ≤ zs.length ∧ e = .int .i64 ((m - (j + 1) : Nat) : Int) ∧ Hid (LesR bs zs j m) ∧ RelLs (ccells n k bs).toArray zs b off w wr) (fun e _ => zs.length - (intOf e).toNat)
        case atStart => exact ⟨j + 1, by omega, by omega, by simp, fun m h1 h2 h3 => by omega, HK.out⟩
        case round =>
          obtain ⟨m, hm0, hm, rfl, HR2, HR⟩ := hrel
          have HK2 := hidd HR
          clear HR
          by_cases hml : m < zs.length
          · obtain ⟨y0, y1⟩ := (set_get HSET.out).1 j hlt
            obtain ⟨z0, z1⟩ := (set_get HSET.out).1 m hml
            obtain ⟨x0, x1⟩ := (set_get HSET.out).1 (j + 1) (by omega)
            have u1 := set_up HSET.out (i := j) (m - j) (by omega)
            rw [show j + (m - j) = m by omega] at u1
            have u2 := set_up HSET.out (i := j) 1 (by omega)
            have hcz := HK2.out.2.1 m hml
            rw [show off + m = off + (j + 1) + (m - (j + 1)) by omega] at hcz
            have hcx := fun wX (h : RelLs (ccells n k bs).toArray zs b off w wX) => h.2.1 (j + 1) (by omega)
            obtain ⟨z, hz⟩ : ∃ y, y = zs.getD m 0 := ⟨_, rfl⟩
            obtain ⟨x, hx⟩ : ∃ y, y = zs.getD (j + 1) 0 := ⟨_, rfl⟩
            rw [← HYE.out] at y0 y1 u1 u2
            rw [← hz] at hcz z0 z1 u1
            rw [← hx] at hcx x0 x1 u2
            have HN1 := hidd (show y ≠ z by omega)
            have HN2 := hidd (show y ≠ x by omega)
            have HE := hidd (And.intro HYE.out (And.intro hz hx))
            have HCX := hidd hcx
            have hdl : m - (j + 1) < zs.length - (j + 1) := by omega
            have hdp : 0 < zs.length - (j + 1) := by omega
            clear hcx hz hx u1 u2
            obtain ⟨p, hp⟩ : ∃ p, p = colAt bs y z := ⟨_, rfl⟩
            obtain ⟨q, hq⟩ : ∃ p, p = colAt bs y x := ⟨_, rfl⟩
            have HP := hidd (And.intro hp hq)
            clear hp hq
            go_wp2_with fail
            clear hcz
            refine wp_region_quiet_at (fun w' => RelLs (ccells n k bs).toArray zs b off w w') rfl (by kernel_rfl) (HK2.out.drew) ?_
            refine qs rfl (fun KQ hKQ => ?_)
            apply Exists.intro
            refine ⟨fun w' hw' => ?_, ?_⟩
            · exact quietRow 25 (.tmp 2) rfl w.heap.size rfl 25 _ _ hw'.1 Try.underlying25 rfl HS.out
            go_simp
            refine hKQ _ ?_
            clear hKQ KQ
            refine qs rfl (fun KQ hKQ => ?_)
            apply Exists.intro
            refine ⟨fun w' hw' => ?_, ?_⟩
            · go_simp; exact rfl
            go_simp
            refine hKQ _ ?_
            clear hKQ KQ
            refine qs rfl (fun KQ hKQ => ?_)
            apply Exists.intro
            refine ⟨fun w' hw' => ?_, ?_⟩
            · go_simp; exact rfl
            go_simp
            refine hKQ _ ?_
            clear hKQ KQ
            refine qs rfl (fun KQ hKQ => ?_)
            apply Exists.intro
            refine ⟨fun w' hw' => ?_, ?_⟩
            · go_simp; exact (at59 n k bs hb n y z _ n2 y0 y1 z0 z1 HN1.out).mono fun _ _ h => ⟨by rw [h.1, ← HP.out.1], hw'.more h.2⟩
            go_simp
            refine hKQ _ ?_
            clear hKQ KQ
            refine qs rfl (fun KQ hKQ => ?_)
            apply Exists.intro
            refine ⟨fun w' hw' => ?_, ?_⟩
            · exact quietRow 25 (.tmp 2) rfl w.heap.size rfl 25 _ _ hw'.1 Try.underlying25 rfl HS.out
            go_simp
            refine hKQ _ ?_
            clear hKQ KQ
            refine qs rfl (fun KQ hKQ => ?_)
            apply Exists.intro
            refine ⟨fun w' hw' => ?_, ?_⟩
            · go_simp; exact rfl
            go_simp
            refine hKQ _ ?_
            clear hKQ KQ
            refine qs rfl (fun KQ hKQ => ?_)
            apply Exists.intro
            refine ⟨fun w' hw' => ?_, ?_⟩
            · go_simp; exact rfl
            go_simp
            refine hKQ _ ?_
            clear hKQ KQ
            refine qs rfl (fun KQ hKQ => ?_)
            apply Exists.intro
            refine ⟨fun w' hw' => ?_, ?_⟩
            · go_simp; exact rfl
            go_simp
            refine hKQ _ ?_
            clear hKQ KQ
            refine qs rfl (fun KQ hKQ => ?_)
            apply Exists.intro
            refine ⟨fun w' hw' => ?_, ?_⟩
            · have hc := HCX.out w' hw'; go_simp; exact rfl
            go_simp
            refine hKQ _ ?_
            clear hKQ KQ
            refine qs rfl (fun KQ hKQ => ?_)
            apply Exists.intro
            refine ⟨fun w' hw' => ?_, ?_⟩
            · go_simp; exact (at59 n k bs hb n y x _ n2 y0 y1 x0 x1 HN2.out).mono fun _ _ h => ⟨by rw [h.1, ← HP.out.2], hw'.more h.2⟩
            go_simp
            refine hKQ _ ?_
            clear hKQ KQ
            refine qs rfl (fun KQ hKQ => ?_)
            apply Exists.intro
            refine ⟨fun w' hw' => ?_, ?_⟩
            · go_simp; exact rfl
            go_simp
            refine hKQ _ ?_
            clear hKQ KQ
            refine wpQuiet_nil ?_
            intro w' hw'
            have HW := hidd hw'
            clear hw'
            by_cases hpq : p = q
            · have hd : (p != q) = false := by simpa using hpq
              have HR3 := hidd (HR2.out.step (show colAt bs (zs.getD j 0) (zs.getD m 0) = _ by rw [← HE.out.1, ← HE.out.2.1, ← HE.out.2.2, ← HP.out.1, ← HP.out.2, hpq]))
              have hnx : ((m - (j + 1) : Nat) : Int) + 1 = ((m + 1 - (j + 1) : Nat) : Int) := by omega
              have hwm : IntKind.i64.wrap (((m - (j + 1) : Nat) : Int) + 1) = ((m - (j + 1) : Nat) : Int) + 1 := IntWalk.i64_in _ (by omega)
              clear hpq
              go_wp2_with fail
              go_roundw
              case rel => exact ⟨m + 1, by omega, by omega, congrArg _ (show ((m - j : Nat) : Int) = ((m + 1 - (j + 1) : Nat) : Int) by omega), HR3, HW.out⟩
              case measure => simp [intOf]; omega
            · have hd : (p != q) = true := by rw [bne_iff_ne]; exact hpq
              have HF := hidd (lesB_no (bs := bs) hlt hml (by omega) (by rw [← HE.out.1, ← HE.out.2.1, ← HE.out.2.2, ← HP.out.1, ← HP.out.2]; exact hpq))
              clear hpq
              go_wp2
              go_ret
              exact ⟨by rw [HF.out]; rfl, HW.out.2.2⟩
          · have HL := hidd (HC.out.step HR2.out (by omega))
            have hdl : ¬ m - (j + 1) < zs.length - (j + 1) := by omega
            go_wp2_with fail
            go_roundw
            case rel => exact ⟨j + 1, by omega, by go_num, HL, HK2.out⟩
            case measure => simp [intOf]; omega
      · obtain rfl : j = zs.length := by omega
        have HT := hidd (lesB_yes HC.out)
        go_wp2
        go_ret
        exact ⟨by rw [HT.out]; rfl, HK.out.2.2⟩
def lcV (n k : Int) (bs : List Nat) (zs : List Int) : Bool := if setCode n k bs zs = 0 then lesB bs zs else false
theorem set_code {n k : Int} {bs : List Nat} {zs : List Int} (h : setCode n k bs zs = 0) : isCol n k bs = true ∧ setB zs n = true := by
  cases hi : isCol n k bs with
  | false => rw [setCode_1 hi] at h; omega
  | true =>
    cases hz : setB zs n with
    | false => rw [setCode_2 hi hz] at h; omega
    | true => exact ⟨rfl, rfl⟩
set_option maxRecDepth 100000 in
theorem spec14 (n k : Int) (bs : List Nat) (hb : Bys bs) (zs : List Int) (a : Option Addr) (cap : Nat) (w : World) (hs : SlI w a zs) (hl : zs.length ≤ 9223372036854775807) :
    Calls Try.prog 14 #[.agg (ccells n k bs).toArray, .slice a zs.length cap] w fun e w' => e = .returned (.tuple #[.bool (lcV n k bs zs), .int .i64 (setCode n k bs zs)]) ∧ Below w.heap.size w w' := by
  have HS := hidd (size_c26 n k hb)
  have HSL := hidd hs
  have HC := hidd (set_code (n := n) (k := k) (bs := bs) (zs := zs))
  have HV := hidd (show lcV n k bs zs = if setCode n k bs zs = 0 then lesB bs zs else false from rfl)
  have HM := hidd (set67 n k bs hb zs)
  generalize lcV n k bs zs = v at HV
  generalize setCode n k bs zs = cd at HC HV HM
  clear hs
  go_enter Try.func14, Try.ntmps14
  go_wp2_with (refine wpList_load_row rfl 25 (.tmp 2) rfl w.heap.size rfl 25 _ (0,0) _ (Blk.new _ _ _ _ rfl) Try.underlying25 rfl HS.out ?_)
  refine (HM.out a cap _ (HSL.out.below ((Below.refl w.heap.size w).alloc (Nat.le_refl _) (.cells (ccells n k bs).toArray 25)) (Nat.le_refl _)) hl).mono ?_
  rintro e w1 ⟨rfl, hb1⟩
  have G1 := hidd (And.intro (((Below.refl w.heap.size w).alloc (Nat.le_refl _) (.cells (ccells n k bs).toArray 25)).trans (hb1.mono (by simp))) ((Blk.new w (ccells n k bs).toArray 25 _ rfl).below hb1 (by simp)))
  clear hb1
  by_cases hz : cd = 0
  · obtain ⟨hi, hse⟩ := HC.out hz
    rw [if_pos hz] at HV
    have hd : (cd != 0) = false := by simp [hz]
    have HI := hidd (And.intro hi hse)
    have n2 := isCol_bd hi
    have hln := set_len hse (by omega)
    have hl17 : zs.length ≤ 17 := by omega
    have HZ := hidd hz
    clear hz hi hse hln
    go_wp2_with (refine wpList_load_row rfl 25 (.tmp 2) rfl w.heap.size rfl 25 _ (0,0) _ G1.out.2 Try.underlying25 rfl HS.out ?_)
    refine (les30 n k bs hb zs a cap _ (HSL.out.below G1.out.1 (Nat.le_refl _)) hl17 n2.2.1 HI.out.2).mono ?_
    rintro e w2 ⟨rfl, hb2⟩
    have G2 := hidd (G1.out.1.trans (hb2.mono G1.out.1.size))
    clear hb2
    go_wp2_with fail
    go_ret2
    exact ⟨by rw [HV.out, HZ.out]; rfl, G2.out⟩
  · have hd : (cd != 0) = true := by rw [bne_iff_ne]; exact hz
    rw [if_neg hz] at HV
    clear hz
    go_wp2
    go_ret2
    exact ⟨by rw [HV.out]; rfl, G1.out.1⟩
set_option maxRecDepth 100000 in
theorem impl16 (n k : Int) (bs : List Nat) (hb : Bys bs) (zs : List Int) (a : Option Addr) (cap : Nat) (w : World) (hs : SlI w a zs) (hl : zs.length ≤ 9223372036854775807) (hcap : zs.length ≤ cap) :
    Calls Try.prog 16 #[.agg (ccells n k bs).toArray, .slice a zs.length cap] w fun e w' => e = .returned (.tuple #[.bool (lcV n k bs zs), .int .i64 (setCode n k bs zs)]) ∧ Below w.heap.size w w' := by
  have HS := hidd (size_c26 n k hb)
  have HC0 := hidd (show (ccells n k bs).toArray[0]? = some (.int .i64 n) from rfl)
  have HSL := hidd hs
  have HG := hidd (show ∀ w1, Below (w.alloc (.cells (ccells n k bs).toArray 25)).heap.size (w.alloc (.cells (ccells n k bs).toArray 25)) w1 → Below w.heap.size w w1 ∧ Blk w1 w.heap.size (ccells n k bs).toArray 25 from
    fun w1 hb1 => ⟨((Below.refl w.heap.size w).alloc (Nat.le_refl _) (.cells (ccells n k bs).toArray 25)).trans (hb1.mono (by simp)), (Blk.new w (ccells n k bs).toArray 25 _ rfl).below hb1 (by simp)⟩)
  clear hs
  cases hi : isCol n k bs with
  | false =>
    have HV := hidd (And.intro (show lcV n k bs zs = false by unfold lcV; rw [setCode_1 hi]; rfl) (setCode_1 (zs := zs) hi))
    have HI := hidd hi
    clear hi
    go_enter Try.func16, Try.ntmps16
    go_wp2_with (refine wpList_load_row rfl 25 (.tmp 2) rfl w.heap.size rfl 25 _ (0,0) _ (Blk.new _ _ _ _ rfl) Try.underlying25 rfl HS.out ?_)
    refine (implIs_any n k bs hb _).mono ?_
    rintro e w1 ⟨rfl, hb1⟩
    rw [HI.out]
    have G1 := hidd (HG.out _ hb1)
    clear hb1
    go_wp2
    go_ret2
    exact ⟨by rw [HV.out.1, HV.out.2]; rfl, G1.out.1⟩
  | true =>
    have n2 := isCol_bd hi
    have HI := hidd hi
    cases hse : setB zs n with
    | false =>
      have HV := hidd (And.intro (show lcV n k bs zs = false by unfold lcV; rw [setCode_2 hi hse]; rfl) (setCode_2 (zs := zs) hi hse))
      have HE := hidd hse
      clear hi hse n2
      go_enter Try.func16, Try.ntmps16
      go_wp2_with (refine wpList_load_row rfl 25 (.tmp 2) rfl w.heap.size rfl 25 _ (0,0) _ (Blk.new _ _ _ _ rfl) Try.underlying25 rfl HS.out ?_)
      refine (implIs_any n k bs hb _).mono ?_
      rintro e w1 ⟨rfl, hb1⟩
      rw [HI.out]
      have G1 := hidd (HG.out _ hb1)
      have c0 := G1.out.2.cell HC0.out
      clear hb1
      go_wp2_with fail
      refine (set69 zs a cap n w1 (HSL.out.below G1.out.1 (Nat.le_refl _)) hl).mono ?_
      rintro e w2 ⟨rfl, hb2⟩
      rw [HE.out]
      have G2 := hidd (G1.out.1.trans (hb2.mono G1.out.1.size))
      clear hb2 c0
      go_wp2
      go_ret2
      exact ⟨by rw [HV.out.1, HV.out.2]; rfl, G2.out⟩
    | true =>
      have HV := hidd (And.intro (show lcV n k bs zs = lesB bs zs by unfold lcV; rw [if_pos (setCode_0 hi hse)]) (setCode_0 (zs := zs) hi hse))
      have HE := hidd hse
      have hln := set_len hse (by omega)
      have hl17 : zs.length ≤ 17 := by omega
      clear hi hse hln
      go_enter Try.func16, Try.ntmps16
      go_wp2_with (refine wpList_load_row rfl 25 (.tmp 2) rfl w.heap.size rfl 25 _ (0,0) _ (Blk.new _ _ _ _ rfl) Try.underlying25 rfl HS.out ?_)
      refine (implIs_any n k bs hb _).mono ?_
      rintro e w1 ⟨rfl, hb1⟩
      rw [HI.out]
      have G1 := hidd (HG.out _ hb1)
      have c0 := G1.out.2.cell HC0.out
      clear hb1
      go_wp2_with fail
      refine (set69 zs a cap n w1 (HSL.out.below G1.out.1 (Nat.le_refl _)) hl).mono ?_
      rintro e w2 ⟨rfl, hb2⟩
      rw [HE.out]
      have G2 := hidd (And.intro (G1.out.1.trans (hb2.mono G1.out.1.size)) (G1.out.2.below hb2 G1.out.2.lt))
      clear hb2 c0
      go_wp2_with (refine wpList_load_row rfl 25 (.tmp 2) rfl w.heap.size rfl 25 _ (0,0) _ G2.out.2 Try.underlying25 rfl HS.out ?_)
      refine (les34 n k bs hb zs a cap _ (HSL.out.below G2.out.1 (Nat.le_refl _)) hl17 hcap n2.2.1 HE.out).mono ?_
      rintro e w3 ⟨rfl, hb3⟩
      have G3 := hidd (G2.out.1.trans (hb3.mono G2.out.1.size))
      clear hb3
      go_wp2_with fail
      go_ret2
      exact ⟨by rw [HV.out.1, HV.out.2]; rfl, G3.out⟩
end Go.Proofs.Ytljlbonoohhhdaa
