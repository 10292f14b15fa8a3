/- readRow: the program. -/
import Derived.Test.YtljlbonoohhhdaaCgs
namespace Go.Proofs.Ytljlbonoohhhdaa
set_option linter.unusedVariables false
set_option linter.unusedSimpArgs false
open Go Go.RowKit Go.Shelf
attribute [local go_sem] Oper.semAt_some
theorem pcl_full (F G : Nat → Int) (n : Nat) : pcl (zF F n) (zF G n) n = pcl F G n := by
  have : ∀ k, k ≤ n → pcl (zF F n) (zF G n) k = pcl F G k := by
    intro k
    induction k with
    | zero => intro _; rfl
    | succ k ih =>
      intro hk
      rw [pcl, pcl, ih (by omega)]
      simp [zF, show k < n by omega]
  exact this n (Nat.le_refl _)
theorem LLa.below {w w' : World} {a : Option Addr} {L : List (List Int)} (h : LLa w a L) {B : Nat} (hb : Below B w w') (hB : w.heap.size ≤ B) : LLa w' a L := by
  rcases h with h | ⟨g, o, ha, h⟩
  · exact .inl h
  · refine .inr ⟨g, o, ha, fun j hj => ?_⟩
    obtain ⟨b, c, h1, h2⟩ := h j hj
    exact ⟨b, c, (hb.cell (p := ⟨g, o + j, none⟩) (Nat.lt_of_lt_of_le (block_lt_of_cell h1) hB)).trans h1, h2.below hb hB⟩
theorem at78 (p : Addr) (c : Nat) (w : World) : (Instr.arrayAt 78 (.slice (some p) 2 c)).run Try.prog w = .ok (.pointer (some p)) w := by
  have hu : Try.prog.underlying 78 = some (.array 2 2) := by kernel_rfl
  simp [Instr.arrayAt, go_sem, hu]
theorem ix78a (x y : Int) (w : World) : (Instr.index 78 (.agg #[.int .i64 x, .int .i64 y]) (.int .i64 0)).run Try.prog w = .ok (.int .i64 x) w := by
  have hu : Try.prog.underlying 78 = some (.array 2 2) := by kernel_rfl
  have hi : (Try.prog.info? 2).map (·.size) = some 1 := by kernel_rfl
  obtain ⟨i, hi2, hsz⟩ := Option.map_eq_some_iff.1 hi
  simp [Instr.index, go_sem, hu, sizeOf, typeInfo, hi2, hsz]
theorem ix78b (x y : Int) (w : World) : (Instr.index 78 (.agg #[.int .i64 x, .int .i64 y]) (.int .i64 1)).run Try.prog w = .ok (.int .i64 y) w := by
  have hu : Try.prog.underlying 78 = some (.array 2 2) := by kernel_rfl
  have hi : (Try.prog.info? 2).map (·.size) = some 1 := by kernel_rfl
  obtain ⟨i, hi2, hsz⟩ := Option.map_eq_some_iff.1 hi
  simp [Instr.index, go_sem, hu, sizeOf, typeInfo, hi2, hsz]
theorem zF_put (F : Nat → Int) {q r : Nat} (hr : r ≠ q) : zF F (q + 1) r = zF F q r := by
  unfold zF
  by_cases h : r < q
  · rw [if_pos (by omega), if_pos h]
  · rw [if_neg (by omega), if_neg h]
theorem zF_at (F : Nat → Int) (q : Nat) : zF F (q + 1) q = F q := by simp [zF]
def RdOut (L : List (List Int)) (w : World) (e : Ending) (w' : World) : Prop :=
  (rowB L = true ∧ e = .returned (.tuple #[.slice (some ⟨w.heap.size, 0, none⟩) L.length L.length, .bool true]) ∧ Prs w' w.heap.size (xL L) (yL L) L.length ∧ Below w.heap.size w w') ∨
  (rowB L = false ∧ e = .returned (.tuple #[.slice none 0 0, .bool false]) ∧ Below w.heap.size w w')
set_option maxRecDepth 100000 in
set_option maxHeartbeats 4000000 in
theorem read38 (L : List (List Int)) (a : Option Addr) (cap : Nat) (w : World) (hs : LLa w a L) (hl : L.length ≤ 9223372036854775807) (hi : ∀ i, i < L.length → (L.getD i []).length ≤ 9223372036854775807) :
    Calls Try.prog 38 #[.slice a L.length cap] w (RdOut L w) := by
  cases hin : inB (L.length : Int) 1 17 with
  | false =>
    have HF := hidd (show rowB L = false by unfold rowB; rw [hin]; rfl)
    have HIN := hidd (fun W => win28 (L.length : Int) 1 17 W)
    rw [hin] at HIN
    clear hs hi hin
    go_enter Try.func38, Try.ntmps38
    go_wp2_with fail
    refine (HIN.out _).mono ?_
    rintro e _ ⟨rfl, rfl⟩
    go_wp2_with fail
    go_ret2
    exact .inr ⟨HF.out, rfl, Below.refl _ _⟩
  | true =>
    have h1 : 1 ≤ L.length ∧ L.length ≤ 17 := by unfold inB at hin; rw [Bool.and_eq_true, decide_eq_true_iff, decide_eq_true_iff] at hin; omega
    have HIB := hidd hin
    have HIN := hidd (fun W => win28 (L.length : Int) 1 17 W)
    rw [hin] at HIN
    clear hin
    rcases hs with hz | ⟨g, o, rfl, hc⟩
    · subst hz; simp at h1
    have hmk := make58 L.length (by omega)
    have HC := hidd hc
    have HI := hidd hi
    have HR0 := hidd (show RelPr (zF (xL L) 0) (zF (yL L) 0) L.length w (w.alloc (.cells (pcl (fun _ => 0) (fun _ => 0) L.length).toArray 78)) from
      ⟨by
        have e1 : (zF (xL L) 0) = fun _ => (0 : Int) := by funext q; simp [zF]
        have e2 : (zF (yL L) 0) = fun _ => (0 : Int) := by funext q; simp [zF]
        rw [e1, e2]; exact Blk.new _ _ _ _ rfl, (Below.refl _ _).alloc (Nat.le_refl _) _⟩)
    obtain ⟨N1, N2⟩ := h1
    clear hc hi
    go_enter Try.func38, Try.ntmps38
    go_wp2_with fail
    refine (HIN.out _).mono ?_
    rintro e _ ⟨rfl, rfl⟩
    go_wp2_with fail
    clear hmk
    go_loopw [18] (fun e wr => ∃ i : Nat, i ≤ L.length ∧ e = .int .i64 (i : Int) ∧ Hid (RowA L i) ∧ RelPr (zF (xL L) i) (zF (yL L) i) L.length w wr) (fun e _ => L.length - (intOf e).toNat)
    case atStart => exact ⟨0, Nat.zero_le _, rfl, fun i hi => by omega, HR0.out⟩
    case round =>
      obtain ⟨i, hi, rfl, HR, hbr⟩ := hrel
      have HK := hidd hbr
      clear hbr
      by_cases hlt : i < L.length
      · obtain ⟨b, c, hcell0, hsl⟩ := HC.out i hlt
        have hcell := (HK.out.2.cell (p := ⟨g, o + i, none⟩) (block_lt_of_cell hcell0)).trans hcell0
        have hbd := HI.out i hlt
        have HSL := hidd (hsl.below HK.out.2 (Nat.le_refl _))
        obtain ⟨zs, hzs⟩ : ∃ zs, zs = L.getD i [] := ⟨_, rfl⟩
        have HZS := hidd hzs
        rw [← hzs] at hcell hbd HSL
        clear hzs hsl hcell0
        by_cases h2 : zs.length = 2
        · obtain ⟨g2, o2, rfl, cx, cy⟩ := two_at HSL.out h2
          rw [h2] at hcell
          obtain ⟨x, hx⟩ : ∃ x, x = zs.getD 0 0 := ⟨_, rfl⟩
          obtain ⟨y, hy⟩ : ∃ y, y = zs.getD 1 0 := ⟨_, rfl⟩
          rw [← hx] at cx
          rw [← hy] at cy
          have HX := hidd (show x = xL L i by rw [hx, HZS.out]; rfl)
          have HY := hidd (show y = yL L i by rw [hy, HZS.out]; rfl)
          have H2 := hidd (show (L.getD i []).length = 2 by rw [← HZS.out]; exact h2)
          have d0 := Prs.x HK.out.1 hlt
          have d1 := Prs.y HK.out.1 hlt
          have f0 := Blk.fro HK.out.1 (i * 2)
          have f1 := Blk.fro HK.out.1 (i * 2 + 1)
          have K2 := hidd (HK.out.store (F := zF (xL L) (i + 1)) (G := zF (yL L) (i + 1)) (q := i) (x := x) (y := y) (by rw [zF_at, HX.out]) (by rw [zF_at, HY.out]) (fun r _ hr => ⟨zF_put _ hr, zF_put _ hr⟩) hlt)
          obtain ⟨u0, hu0⟩ : ∃ u, u = zF (xL L) i i := ⟨_, rfl⟩
          obtain ⟨u1, hu1⟩ : ∃ u, u = zF (yL L) i i := ⟨_, rfl⟩
          rw [← hu0] at d0
          rw [← hu1] at d1
          clear hx hy h2 hbd hu0 hu1
          have hat := at78 ⟨g2, o2, none⟩ c
          go_wp2_with fail
          clear hat d0 d1 f0 f1 cx cy
          obtain ⟨w3, hw3⟩ : ∃ w3, w3 = (wr.setCell ⟨w.heap.size, i * 2, none⟩ (.int .i64 x)).setCell ⟨w.heap.size, i * 2 + 1, none⟩ (.int .i64 y) := ⟨_, rfl⟩
          rw [← hw3] at K2 ⊢
          clear hw3
          go_loopw [36] (fun e wr => ∃ d : Nat, d ≤ 2 ∧ e = .int .i64 (d : Int) ∧ (1 ≤ d → In1 x) ∧ (2 ≤ d → In1 y) ∧ wr = w3) (fun e _ => 2 - (intOf e).toNat)
          case atStart => exact ⟨0, by omega, rfl, fun h => by omega, fun h => by omega, by first | rfl | trivial⟩
          case round =>
            obtain ⟨d, hd, rfl, hx1, hy1, rfl⟩ := hrel
            have HD := hidd (And.intro hx1 hy1)
            clear hx1 hy1
            have hqx : ∀ {z : Int}, inB z (-1000) 1000 = true → In1 z := fun {z} h => by unfold inB at h; rw [Bool.and_eq_true, decide_eq_true_iff, decide_eq_true_iff] at h; exact h
            have hqn : ∀ {z : Int}, inB z (-1000) 1000 = false → ¬ In1 z := fun {z} h k => by rw [inB_yes k.1 k.2] at h; cases h
            have HQ := hidd (And.intro (@hqx) (@hqn))
            clear hqx hqn
            have hia := ix78a x y
            have hib := ix78b x y
            rcases (show d = 0 ∨ d = 1 ∨ d = 2 by omega) with rfl | rfl | rfl
            · have HW := hidd (fun W => win28 x (-1000) 1000 W)
              cases hb : inB x (-1000) 1000 with
              | false =>
                have HF := hidd (rowB_no hlt (fun h => HQ.out.2 hb (by rw [HX.out]; exact h.2.1)))
                rw [hb] at HW
                clear hb hd
                go_wp2_with fail
                refine (HW.out _).mono ?_
                rintro e _ ⟨rfl, rfl⟩
                go_wp2_with fail
                go_ret2
                exact .inr ⟨HF.out, rfl, K2.out.2⟩
              | true =>
                have HOX := hidd (HQ.out.1 hb)
                rw [hb] at HW
                clear hb hd
                go_wp2_with fail
                refine (HW.out _).mono ?_
                rintro e _ ⟨rfl, rfl⟩
                go_wp2_with fail
                go_roundw
                case rel => exact ⟨1, by omega, rfl, fun _ => HOX.out, fun h => by omega, by first | rfl | trivial⟩
                case measure => simp [intOf]
            · have HW := hidd (fun W => win28 y (-1000) 1000 W)
              cases hb : inB y (-1000) 1000 with
              | false =>
                have HF := hidd (rowB_no hlt (fun h => HQ.out.2 hb (by rw [HY.out]; exact h.2.2.1)))
                rw [hb] at HW
                clear hb hd
                go_wp2_with fail
                refine (HW.out _).mono ?_
                rintro e _ ⟨rfl, rfl⟩
                go_wp2_with fail
                go_ret2
                exact .inr ⟨HF.out, rfl, K2.out.2⟩
              | true =>
                have HOY := hidd (HQ.out.1 hb)
                rw [hb] at HW
                clear hb hd
                go_wp2_with fail
                refine (HW.out _).mono ?_
                rintro e _ ⟨rfl, rfl⟩
                go_wp2_with fail
                go_roundw
                case rel => exact ⟨2, by omega, rfl, fun _ => HD.out.1 (by omega), fun _ => HOY.out, by first | rfl | trivial⟩
                case measure => simp [intOf]
            · have HOX := hidd (HD.out.1 (by omega))
              have HOY := hidd (HD.out.2 (by omega))
              clear hd
              have cX := Prs.x K2.out.1 hlt
              rw [zF_at, ← HX.out] at cX
              by_cases h0 : i = 0
              · have HOK := hidd (show okR L i from ⟨H2.out, by rw [← HX.out]; exact HOX.out, by rw [← HY.out]; exact HOY.out, fun h => by omega⟩)
                have hgt : decide ((i : Int) > 0) = false := by simp; omega
                have hgt1 : decide ((0 : Int) < (i : Int)) = false := by simp; omega
                have hgt2 : decide (0 < i) = false := by simp; omega
                clear h0
                go_wp2_with fail
                refine wp_region_quiet_at (fun w' => Below wr.heap.size wr w') rfl (by kernel_rfl) ((Below.refl _ _).drew) ?_
                refine qs rfl (fun KQ hKQ => ?_)
                apply Exists.intro
                refine ⟨fun w' hw' => ?_, ?_⟩
                · go_simp; exact rfl
                go_simp
                refine hKQ _ ?_
                clear hKQ KQ
                refine qs rfl (fun KQ hKQ => ?_)
                apply Exists.intro
                refine ⟨fun w' hw' => ?_, ?_⟩
                · go_simp; exact rfl
                go_simp
                refine hKQ _ ?_
                clear hKQ KQ
                refine qs rfl (fun KQ hKQ => ?_)
                apply Exists.intro
                refine ⟨fun w' hw' => ?_, ?_⟩
                · go_simp; exact rfl
                go_simp
                refine hKQ _ ?_
                clear hKQ KQ
                go_big_quiet_skip
                go_big_quiet_skip
                go_big_quiet_skip
                go_big_quiet_skip
                go_big_quiet_skip
                go_big_quiet_skip
                go_big_quiet_skip
                go_big_quiet_skip
                go_big_quiet_skip
                go_big_quiet_skip
                go_big_quiet_skip
                go_big_quiet_skip
                refine qs rfl (fun KQ hKQ => ?_)
                apply Exists.intro
                refine ⟨fun w' hw' => ?_, ?_⟩
                · go_simp; exact rfl
                go_simp
                refine hKQ _ ?_
                clear hKQ KQ
                refine wpQuiet_nil ?_
                intro w' hw'
                have HW := hidd (K2.out.more hw')
                clear hw'
                go_wp2_with fail
                go_roundw
                case rel => exact ⟨i + 1, by omega, by go_num, HR.out.step HOK.out, HW.out⟩
                case measure => simp [intOf]; omega
              · have hpr := HR.out (i - 1) (by omega)
                have pX := Prs.x K2.out.1 (show i - 1 < L.length by omega)
                have hzp : zF (xL L) (i + 1) (i - 1) = xL L (i - 1) := by unfold zF; rw [if_pos (by omega)]
                rw [hzp] at pX
                obtain ⟨u, hu⟩ : ∃ u, u = xL L (i - 1) := ⟨_, rfl⟩
                rw [← hu] at pX
                have HU := hidd hu
                have hgt : decide ((i : Int) > 0) = true := by simp; omega
                have hgt1 : decide ((0 : Int) < (i : Int)) = true := by simp; omega
                have hgt2 : decide (0 < i) = true := by simp; omega
                have hi0 : (0 : Int) ≤ (i : Int) - 1 := by omega
                have hi2 : (1 : Int) ≤ (i : Int) := by omega
                have hi1 : (i : Int) - 1 < (L.length : Int) := by omega
                have hwi : IntKind.i64.wrap ((i : Int) - 1) = (i : Int) - 1 := IntWalk.i64_in _ (by omega)
                have hti : ((i : Int) - 1).toNat = i - 1 := by omega
                clear hu hpr hzp
                by_cases hle : u ≥ x
                · have hld : decide (u ≥ x) = true := by simpa using hle
                  have hld1 : decide (x ≤ u) = true := by simpa using hle
                  have HF := hidd (rowB_no hlt (fun h => by have := h.2.2.2 (by omega); rw [← HX.out, ← HU.out] at this; omega))
                  clear hle h0
                  go_wp2_with fail
                  refine wp_region_quiet_at (fun w' => Below wr.heap.size wr w') rfl (by kernel_rfl) ((Below.refl _ _).drew) ?_
                  refine qs rfl (fun KQ hKQ => ?_)
                  apply Exists.intro
                  refine ⟨fun w' hw' => ?_, ?_⟩
                  · go_simp; exact rfl
                  go_simp
                  refine hKQ _ ?_
                  clear hKQ KQ
                  refine qs rfl (fun KQ hKQ => ?_)
                  apply Exists.intro
                  refine ⟨fun w' hw' => ?_, ?_⟩
                  · go_simp; exact rfl
                  go_simp
                  refine hKQ _ ?_
                  clear hKQ KQ
                  refine qs rfl (fun KQ hKQ => ?_)
                  apply Exists.intro
                  refine ⟨fun w' hw' => ?_, ?_⟩
                  · go_simp; exact rfl
                  go_simp
                  refine hKQ _ ?_
                  clear hKQ KQ
                  go_big_quiet_want
                  rename_i KQ hKQ
                  apply Exists.intro
                  refine ⟨fun w' hw' => ?_, ?_⟩
                  · go_simp; exact rfl
                  go_simp
                  refine hKQ _ ?_
                  clear hKQ KQ
                  go_big_quiet_want
                  rename_i KQ hKQ
                  apply Exists.intro
                  refine ⟨fun w' hw' => ?_, ?_⟩
                  · go_simp; exact rfl
                  go_simp
                  refine hKQ _ ?_
                  clear hKQ KQ
                  go_big_quiet_want
                  rename_i KQ hKQ
                  apply Exists.intro
                  refine ⟨fun w' hw' => ?_, ?_⟩
                  · go_simp; exact rfl
                  go_simp
                  refine hKQ _ ?_
                  clear hKQ KQ
                  go_big_quiet_want
                  rename_i KQ hKQ
                  apply Exists.intro
                  refine ⟨fun w' hw' => ?_, ?_⟩
                  · go_simp; exact rfl
                  go_simp
                  refine hKQ _ ?_
                  clear hKQ KQ
                  go_big_quiet_want
                  rename_i KQ hKQ
                  apply Exists.intro
                  refine ⟨fun w' hw' => ?_, ?_⟩
                  · go_simp; exact rfl
                  go_simp
                  refine hKQ _ ?_
                  clear hKQ KQ
                  go_big_quiet_want
                  rename_i KQ hKQ
                  apply Exists.intro
                  refine ⟨fun w' hw' => ?_, ?_⟩
                  · have hc := (hw'.cell (p := ⟨w.heap.size, (i - 1) * 2, none⟩) (block_lt_of_cell pX)).trans pX; go_simp; exact rfl
                  go_simp
                  refine hKQ _ ?_
                  clear hKQ KQ
                  go_big_quiet_want
                  rename_i KQ hKQ
                  apply Exists.intro
                  refine ⟨fun w' hw' => ?_, ?_⟩
                  · go_simp; exact rfl
                  go_simp
                  refine hKQ _ ?_
                  clear hKQ KQ
                  go_big_quiet_want
                  rename_i KQ hKQ
                  apply Exists.intro
                  refine ⟨fun w' hw' => ?_, ?_⟩
                  · go_simp; exact rfl
                  go_simp
                  refine hKQ _ ?_
                  clear hKQ KQ
                  go_big_quiet_want
                  rename_i KQ hKQ
                  apply Exists.intro
                  refine ⟨fun w' hw' => ?_, ?_⟩
                  · go_simp; exact rfl
                  go_simp
                  refine hKQ _ ?_
                  clear hKQ KQ
                  go_big_quiet_want
                  rename_i KQ hKQ
                  apply Exists.intro
                  refine ⟨fun w' hw' => ?_, ?_⟩
                  · go_simp; exact rfl
                  go_simp
                  refine hKQ _ ?_
                  clear hKQ KQ
                  go_big_quiet_want
                  rename_i KQ hKQ
                  apply Exists.intro
                  refine ⟨fun w' hw' => ?_, ?_⟩
                  · have hc := (hw'.cell (p := ⟨w.heap.size, i * 2, none⟩) (block_lt_of_cell cX)).trans cX; go_simp; exact rfl
                  go_simp
                  refine hKQ _ ?_
                  clear hKQ KQ
                  go_big_quiet_want
                  rename_i KQ hKQ
                  apply Exists.intro
                  refine ⟨fun w' hw' => ?_, ?_⟩
                  · go_simp; exact rfl
                  go_simp
                  refine hKQ _ ?_
                  clear hKQ KQ
                  refine qs rfl (fun KQ hKQ => ?_)
                  apply Exists.intro
                  refine ⟨fun w' hw' => ?_, ?_⟩
                  · go_simp; exact rfl
                  go_simp
                  refine hKQ _ ?_
                  clear hKQ KQ
                  refine wpQuiet_nil ?_
                  intro w' hw'
                  have HW := hidd (K2.out.more hw')
                  clear hw'
                  go_wp2_with fail
                  go_ret2
                  exact .inr ⟨HF.out, rfl, HW.out.2⟩
                · have hld : decide (u ≥ x) = false := by simpa using hle
                  have hld1 : decide (x ≤ u) = false := by simpa using hle
                  have HOK := hidd (show okR L i from ⟨H2.out, by rw [← HX.out]; exact HOX.out, by rw [← HY.out]; exact HOY.out, fun h => by rw [← HX.out, ← HU.out]; omega⟩)
                  clear hle h0
                  go_wp2_with fail
                  refine wp_region_quiet_at (fun w' => Below wr.heap.size wr w') rfl (by kernel_rfl) ((Below.refl _ _).drew) ?_
                  refine qs rfl (fun KQ hKQ => ?_)
                  apply Exists.intro
                  refine ⟨fun w' hw' => ?_, ?_⟩
                  · go_simp; exact rfl
                  go_simp
                  refine hKQ _ ?_
                  clear hKQ KQ
                  refine qs rfl (fun KQ hKQ => ?_)
                  apply Exists.intro
                  refine ⟨fun w' hw' => ?_, ?_⟩
                  · go_simp; exact rfl
                  go_simp
                  refine hKQ _ ?_
                  clear hKQ KQ
                  refine qs rfl (fun KQ hKQ => ?_)
                  apply Exists.intro
                  refine ⟨fun w' hw' => ?_, ?_⟩
                  · go_simp; exact rfl
                  go_simp
                  refine hKQ _ ?_
                  clear hKQ KQ
                  go_big_quiet_want
                  rename_i KQ hKQ
                  apply Exists.intro
                  refine ⟨fun w' hw' => ?_, ?_⟩
                  · go_simp; exact rfl
                  go_simp
                  refine hKQ _ ?_
                  clear hKQ KQ
                  go_big_quiet_want
                  rename_i KQ hKQ
                  apply Exists.intro
                  refine ⟨fun w' hw' => ?_, ?_⟩
                  · go_simp; exact rfl
                  go_simp
                  refine hKQ _ ?_
                  clear hKQ KQ
                  go_big_quiet_want
                  rename_i KQ hKQ
                  apply Exists.intro
                  refine ⟨fun w' hw' => ?_, ?_⟩
                  · go_simp; exact rfl
                  go_simp
                  refine hKQ _ ?_
                  clear hKQ KQ
                  go_big_quiet_want
                  rename_i KQ hKQ
                  apply Exists.intro
                  refine ⟨fun w' hw' => ?_, ?_⟩
                  · go_simp; exact rfl
                  go_simp
                  refine hKQ _ ?_
                  clear hKQ KQ
                  go_big_quiet_want
                  rename_i KQ hKQ
                  apply Exists.intro
                  refine ⟨fun w' hw' => ?_, ?_⟩
                  · go_simp; exact rfl
                  go_simp
                  refine hKQ _ ?_
                  clear hKQ KQ
                  go_big_quiet_want
                  rename_i KQ hKQ
                  apply Exists.intro
                  refine ⟨fun w' hw' => ?_, ?_⟩
                  · have hc := (hw'.cell (p := ⟨w.heap.size, (i - 1) * 2, none⟩) (block_lt_of_cell pX)).trans pX; go_simp; exact rfl
                  go_simp
                  refine hKQ _ ?_
                  clear hKQ KQ
                  go_big_quiet_want
                  rename_i KQ hKQ
                  apply Exists.intro
                  refine ⟨fun w' hw' => ?_, ?_⟩
                  · go_simp; exact rfl
                  go_simp
                  refine hKQ _ ?_
                  clear hKQ KQ
                  go_big_quiet_want
                  rename_i KQ hKQ
                  apply Exists.intro
                  refine ⟨fun w' hw' => ?_, ?_⟩
                  · go_simp; exact rfl
                  go_simp
                  refine hKQ _ ?_
                  clear hKQ KQ
                  go_big_quiet_want
                  rename_i KQ hKQ
                  apply Exists.intro
                  refine ⟨fun w' hw' => ?_, ?_⟩
                  · go_simp; exact rfl
                  go_simp
                  refine hKQ _ ?_
                  clear hKQ KQ
                  go_big_quiet_want
                  rename_i KQ hKQ
                  apply Exists.intro
                  refine ⟨fun w' hw' => ?_, ?_⟩
                  · go_simp; exact rfl
                  go_simp
                  refine hKQ _ ?_
                  clear hKQ KQ
                  go_big_quiet_want
                  rename_i KQ hKQ
                  apply Exists.intro
                  refine ⟨fun w' hw' => ?_, ?_⟩
                  · have hc := (hw'.cell (p := ⟨w.heap.size, i * 2, none⟩) (block_lt_of_cell cX)).trans cX; go_simp; exact rfl
                  go_simp
                  refine hKQ _ ?_
                  clear hKQ KQ
                  go_big_quiet_want
                  rename_i KQ hKQ
                  apply Exists.intro
                  refine ⟨fun w' hw' => ?_, ?_⟩
                  · go_simp; exact rfl
                  go_simp
                  refine hKQ _ ?_
                  clear hKQ KQ
                  refine qs rfl (fun KQ hKQ => ?_)
                  apply Exists.intro
                  refine ⟨fun w' hw' => ?_, ?_⟩
                  · go_simp; exact rfl
                  go_simp
                  refine hKQ _ ?_
                  clear hKQ KQ
                  refine wpQuiet_nil ?_
                  intro w' hw'
                  have HW := hidd (K2.out.more hw')
                  clear hw'
                  go_wp2_with fail
                  go_roundw
                  case rel => exact ⟨i + 1, by omega, by go_num, HR.out.step HOK.out, HW.out⟩
                  case measure => simp [intOf]; omega
        · have hne : ((zs.length : Int) != 2) = true := by rw [bne_iff_ne]; omega
          have HF := hidd (rowB_no hlt (fun h => h2 (by rw [HZS.out]; exact h.1)))
          clear h2
          go_wp2_with fail
          go_ret2
          exact .inr ⟨HF.out, rfl, HK.out.2⟩
      · obtain rfl : i = L.length := by omega
        have HF := hidd (show rowB L = true by unfold rowB; rw [HIB.out]; simpa using HR.out)
        have HPS := hidd (show Prs wr w.heap.size (xL L) (yL L) L.length by have h := HK.out.1; unfold Prs at h ⊢; rw [pcl_full] at h; exact h)
        go_wp2_with fail
        go_ret2
        exact .inl ⟨HF.out, rfl, HPS.out, HK.out.2⟩
end Go.Proofs.Ytljlbonoohhhdaa
