/- greatestCup: the program. -/
import Derived.Test.YtljlbonoohhhdaaCgr
namespace Go.Proofs.Ytljlbonoohhhdaa
set_option linter.unusedVariables false
set_option linter.unusedSimpArgs false
open Go Go.RowKit Go.Shelf
attribute [local go_sem] Oper.semAt_some
def upB (X Y : Nat → Int) : Nat → Nat → Nat → Bool := fun i j l => decide (bnd X Y i j l > 0)
theorem blk_put {A : World} {k l : Nat} {C : Array Value} {t : TypeId} {o : Obj} (h : Blk A k C t) (hl : A.heap[l]? = some o) (ho : o.isCells = false) (o' : Obj) : Blk (A.putObj l o') k C t := CKept.put hl ho o' k C t (0, 0) h
theorem zero79e : Try.zeroCells79 = (List.replicate 136 (Value.int .i64 0)).toArray := by kernel_rfl
theorem zero79 : ∀ q, q < 136 → ∃ z : Int, Try.zeroCells79[q]? = some (.int .i64 z) := fun q hq => ⟨0, by rw [zero79e, List.getElem?_toArray, List.getElem?_replicate, if_pos hq]⟩
set_option maxRecDepth 100000 in
set_option maxHeartbeats 4000000 in
theorem cup39 (X Y : Nat → Int) (N : Nat) (N1 : 1 ≤ N) (N2 : N ≤ 17) (hX : ∀ q, q < N → In1 (X q)) (hY : ∀ q, q < N → In1 (Y q)) (g : Nat) (w : World) (hP : Prs w g X Y N) :
    Calls Try.prog 39 #[.slice (some ⟨g, 0, none⟩) N N] w fun e w' => e = .returned (.int .i64 (cpJ (cupV (upB X Y)) N)) ∧ Below w.heap.size w w' := by
  have HX := hidd hX
  have HY := hidd hY
  have HGL := hidd (Blk.lt hP)
  obtain ⟨V, hV⟩ : ∃ V, V = cupV (upB X Y) := ⟨_, rfl⟩
  have HV := hidd hV
  rw [← hV]
  obtain ⟨W0, hW0⟩ : ∃ W0, W0 = ((w.alloc (.cells #[.slice (some ⟨g, 0, none⟩) N N] 58)).alloc (.cells Try.zeroCells79 79)).alloc (.cells #[.int .i64 1] 2) := ⟨_, rfl⟩
  have hz : W0.heap.size = w.heap.size + 1 + 1 + 1 := by rw [hW0]; simp
  have hb0 : Below w.heap.size w W0 := by rw [hW0]; exact (((Below.refl _ _).alloc (Nat.le_refl _) _).alloc (by simp) _).alloc (by simp; omega) _
  have HR0 := hidd (show RelCu X Y N g V w (cpP V 1 []) [] [] W0 from ⟨by rw [hW0]; exact ((Blk.new _ _ _ _ rfl).alloc _).alloc _, ⟨Try.zeroCells79, by rw [hW0]; exact (Blk.new _ _ _ _ (by simp)).alloc _, by kernel_rfl, zero79, fun x hx => (by cases hx), fun p hp => (by cases hp)⟩,
    by rw [hW0]; exact Blk.new _ _ _ _ (by simp), Blk.below hP hb0 (Blk.lt hP), hb0⟩)
  have HW0 := hidd hW0
  clear hP hX hY hV hW0
  refine (callsIn_wide (n := 3)).1 (callsIn_of_wp_marks Try.func39 rfl trivial ?_ rfl)
  simp only [Try.ntmps39, List.size_toArray, List.length_cons, List.length_nil, Nat.reduceAdd, Nat.reduceSub, Array.replicate_succ, Array.replicate_zero, List.push_toArray, List.append_toArray, List.nil_append, List.cons_append]
  gi_wp2_with fail
  rw [← HW0.out]
  refine ⟨trivial, (callsIn_wide.2 (edges66 _ _)).mono ?_⟩
  rintro e w1 ⟨rfl, hw1⟩
  rw [hz]
  have hb1 : Below W0.heap.size W0 w1 := by rw [← hw1]; exact (Below.refl _ _).alloc (Nat.le_refl _) _
  have hs1 : w1.heap.size = w.heap.size + 1 + 1 + 1 + 1 := by rw [← hw1]; simp [hz]
  have hn1 : Blk w1 (w.heap.size + 1 + 1 + 1) #[.int .i64 (N : Int)] 2 := by rw [← hw1]; exact Blk.new _ _ _ _ (by rw [hz])
  have HR1 := hidd (HR0.out.more (show w.heap.size + 1 + 1 < W0.heap.size by omega) (by have := HGL.out; omega) hb1)
  have HIT := hidd (iter73 1 (w.heap.size + 1 + 1 + 1) N N1 N2 w1 hn1)
  have HS1 := hidd hs1
  have HST := hidd (show Stab w1.heap.size (fun (pre : List (Nat × Nat × Nat)) Wx => RelCu X Y N g V w (cpP V 1 pre) pre [] Wx) from
    fun pre A A' h hb => h.more (by omega) (by have := HGL.out; omega) hb)
  clear hw1 hb1 hs1 hn1 hz hb0 HR0 HW0
  gi_wp2_with fail
  refine range_gives rfl (enters_of Try.func57 (by kernel_rfl) rfl) HIT.out (fun b hb => by simp only [List.mem_cons, List.not_mem_nil, or_false] at hb; have := HS1.out; omega) (fun _ => rfl)
    (fun (pre : List (Nat × Nat × Nat)) Wx => RelCu X Y N g V w (cpP V 1 pre) pre [] Wx) (fun (pre : List (Nat × Nat × Nat)) Wx => False) HST.out (fun _ _ _ h _ _ => h) HR1.out
    (fun x a' Wx => ∃ be, a' = { tmps := #[.slice (some ⟨g, 0, none⟩) N N, .pointer (some ⟨w.heap.size, 0, none⟩), .int .i64 0, .pointer (some ⟨w.heap.size + 1, 0, none⟩), .pointer (some ⟨w.heap.size + 1 + 1, 0, none⟩), .int .i64 (x.1 : Int), .pointer (some ⟨be, 0, none⟩), undef, .slice (some ⟨g, 0, none⟩) N N, .int .i64 (N : Int), .func (.func 57) #[] #[.pointer (some ⟨w.heap.size + 1 + 1 + 1, 0, none⟩)], .int .i64 (x.1 : Int), .agg #[.int .i64 (x.2.1 : Int), .int .i64 (x.2.2 : Int)], undef, undef, undef, undef, undef, undef, undef, undef, undef, undef, undef, undef, undef, undef, undef, undef, undef, undef, undef, undef, undef, undef, undef, undef, undef, undef, undef, undef, undef, undef, undef, undef, undef, undef, undef, undef, undef, undef, undef, undef, undef, undef], defers := [] } ∧ Blk Wx be #[.int .i64 (x.2.1 : Int), .int .i64 (x.2.2 : Int)] 71 ∧ w1.heap.size ≤ be)
    (fun x a' A l' o o' h hl' ho => by obtain ⟨be, h1, h2, h3⟩ := h; exact ⟨be, h1, blk_put h2 hl' ho o', h3⟩) ?assign ?body ?done ?stop
  case assign =>
    intro l' pre x rest Wx Kx' hall hI hs hK
    have HK := hidd hK
    clear hK hI
    dsimp only [encD]
    gi_wp2
    exact HK.out _ _ ((Below.refl _ _).alloc (Nat.le_refl _) _) ⟨Wx.heap.size, rfl, Blk.new _ _ _ _ rfl, hs⟩
  case body =>
    rintro l' pre ⟨q, lo, hi⟩ rest a' Wx hall hs hI ⟨be, rfl, hblk, hWb⟩
    obtain ⟨hlh, hhN⟩ := eseq_bd (show (q, lo, hi) ∈ eseq N by rw [hall]; simp)
    have hq := eseq_mem (show (q, lo, hi) ∈ eseq N by rw [hall]; simp)
    have hq136 := eseq_136 N2 (show (q, lo, hi) ∈ eseq N by rw [hall]; simp)
    dsimp only at hq hlh hhN hblk hq136
    rw [← hq] at hq136
    have HNE := hidd (pre_ne hall)
    have HPH := hidd (fun m (hm : m < lo) => pre_has hall hm)
    have HGL2 := HGL.out
    have HKX := hidd (fun (wr : World) (z : Int) (q : Nat) (h : Kx [w.heap.size + 1 + 1 + 1] w1.heap.size Wx wr) => (show Kx [w.heap.size + 1 + 1 + 1] w1.heap.size Wx (wr.setCell ⟨w.heap.size + 1, q, none⟩ (.int .i64 z)) from
      h.trans ⟨by simp [World.setCell], fun k hk hb => heap_setCell_other wr ⟨w.heap.size + 1, q, none⟩ k (.int .i64 z) (by
        show k ≠ w.heap.size + 1
        have := HS1.out
        rcases hb with hb | hb
        · omega
        · simp only [List.mem_cons, List.not_mem_nil, or_false] at hb; omega)⟩))
    have HKY := hidd (fun (wr : World) (z : Int) (h : Kx [w.heap.size + 1 + 1 + 1] w1.heap.size Wx wr) => (show Kx [w.heap.size + 1 + 1 + 1] w1.heap.size Wx (wr.setCell ⟨w.heap.size + 1 + 1, 0, none⟩ (.int .i64 z)) from
      h.trans ⟨by simp [World.setCell], fun k hk hb => heap_setCell_other wr ⟨w.heap.size + 1 + 1, 0, none⟩ k (.int .i64 z) (by
        show k ≠ w.heap.size + 1 + 1
        have := HS1.out
        rcases hb with hb | hb
        · omega
        · simp only [List.mem_cons, List.not_mem_nil, or_false] at hb; omega)⟩))
    have HBE := hidd (fun (wr : World) (h : Kx [w.heap.size + 1 + 1 + 1] w1.heap.size Wx wr) => (show Blk wr be #[.int .i64 (lo : Int), .int .i64 (hi : Int)] 71 from
      (h.2 be hblk.lt (.inl hWb)).trans hblk))
    obtain ⟨z0, d0⟩ := hI.any hq136
    have f0 := hI.free q
    have H2 := hidd (show RelCu X Y N g V w (cpP V 1 pre) pre [(q, cupK (upB X Y) (fun h => V h lo) lo hi 0)] (Wx.setCell ⟨w.heap.size + 1, q, none⟩ (.int .i64 2)) ∧ Kx [w.heap.size + 1 + 1 + 1] w1.heap.size Wx (Wx.setCell ⟨w.heap.size + 1, q, none⟩ (.int .i64 2)) from
      ⟨hI.put HGL2 hq136 HNE.out 2, HKX.out Wx 2 q (Kx.refl _ _ _)⟩)
    have eb0 := hblk.cell (j := 0) (show _ = some (Value.int .i64 (lo : Int)) from rfl)
    have eb1 := (H2.out.2.2 be hblk.lt (.inl hWb)).trans hblk
    have eb2 := Blk.cell eb1 (j := 0) (show _ = some (Value.int .i64 (lo : Int)) from rfl)
    have hqI : (q : Int) < 136 := by omega
    have HQ := hidd hq
    clear hI hall hblk eb1 hq
    gi_wp2_with fail
    gi_loopw [17] (fun e wr => ∃ m : Nat, m ≤ lo ∧ e = .int .i64 (m : Int) ∧ RelCu X Y N g V w (cpP V 1 pre) pre [(q, cupK (upB X Y) (fun h => V h lo) lo hi m)] wr ∧ Kx [w.heap.size + 1 + 1 + 1] w1.heap.size Wx wr) (fun e _ => lo - (intOf e).toNat)
    case atStart => exact ⟨0, Nat.zero_le _, rfl, H2.out.1, H2.out.2⟩
    case round =>
      obtain ⟨m, hm, rfl, HR, HRk⟩ := hrel
      have HK2 := hidd (And.intro HR HRk)
      clear HR HRk
      by_cases hml : m < lo
      · have k1 := HK2.out.1.1.cell (j := 0) (show _ = some (Value.slice (some ⟨g, 0, none⟩) N N) from rfl)
        have e0 := (HBE.out _ HK2.out.2).cell (j := 0) (show _ = some (Value.int .i64 (lo : Int)) from rfl)
        have e1 := (HBE.out _ HK2.out.2).cell (j := 1) (show _ = some (Value.int .i64 (hi : Int)) from rfl)
        have x0 := Prs.x HK2.out.1.2.2.2.1 (show m < N by omega)
        have y0 := Prs.y HK2.out.1.2.2.2.1 (show m < N by omega)
        have x1 := Prs.x HK2.out.1.2.2.2.1 (show lo < N by omega)
        have y1 := Prs.y HK2.out.1.2.2.2.1 (show lo < N by omega)
        have x2 := Prs.x HK2.out.1.2.2.2.1 hhN
        have y2 := Prs.y HK2.out.1.2.2.2.1 hhN
        have HBN := hidd (fun W => bends52 (X m) (Y m) (X lo) (Y lo) (X hi) (Y hi) (HX.out m (by omega)) (HY.out m (by omega)) (HX.out lo (by omega)) (HY.out lo (by omega)) (HX.out hi hhN) (HY.out hi hhN) W)
        have HBD := hidd (show ((Y hi - Y lo) * (X lo - X m) - (Y lo - Y m) * (X hi - X lo) > 0) = (bnd X Y m lo hi > 0) from rfl)
        have hmN : (m : Int) < (N : Int) := by omega
        have hlN : (lo : Int) < (N : Int) := by omega
        have hhI : (hi : Int) < (N : Int) := by omega
        have HDR := hidd HK2.out
        generalize X m = a0 at x0 HBN HBD
        generalize Y m = b0 at y0 HBN HBD
        generalize X lo = a1 at x1 HBN HBD
        generalize Y lo = b1 at y1 HBN HBD
        generalize X hi = a2 at x2 HBN HBD
        generalize Y hi = b2 at y2 HBN HBD
        gi_wp2_with fail
        refine wpIn_region_tail_lit (lets_round l' _) 14 (fun w' => w' = wr.drew) (by decide) (by kernel_rfl) rfl (by kernel_rfl) (by kernel_rfl) (by kernel_rfl) (by kernel_rfl) (by kernel_rfl) ?_
        simp only [List.take_succ_cons, List.take_zero, List.drop_succ_cons, List.drop_zero, List.map_cons, List.map_nil, List.cons_append, List.nil_append, idle]
        refine qs rfl (fun KQ hKQ => ?_)
        apply Exists.intro
        refine ⟨fun w' hw' => ?_, ?_⟩
        · subst hw'; go_simp; exact rfl
        go_simp
        refine hKQ _ ?_
        clear hKQ KQ
        refine qs rfl (fun KQ hKQ => ?_)
        apply Exists.intro
        refine ⟨fun w' hw' => ?_, ?_⟩
        · go_simp; exact rfl
        go_simp
        refine hKQ _ ?_
        clear hKQ KQ
        refine qs rfl (fun KQ hKQ => ?_)
        apply Exists.intro
        refine ⟨fun w' hw' => ?_, ?_⟩
        · go_simp; exact rfl
        go_simp
        refine hKQ _ ?_
        clear hKQ KQ
        refine qs rfl (fun KQ hKQ => ?_)
        apply Exists.intro
        refine ⟨fun w' hw' => ?_, ?_⟩
        · subst hw'; go_simp; exact rfl
        go_simp
        refine hKQ _ ?_
        clear hKQ KQ
        refine qs rfl (fun KQ hKQ => ?_)
        apply Exists.intro
        refine ⟨fun w' hw' => ?_, ?_⟩
        · subst hw'; go_simp; exact rfl
        go_simp
        refine hKQ _ ?_
        clear hKQ KQ
        refine qs rfl (fun KQ hKQ => ?_)
        apply Exists.intro
        refine ⟨fun w' hw' => ?_, ?_⟩
        · go_simp; exact rfl
        go_simp
        refine hKQ _ ?_
        clear hKQ KQ
        refine qs rfl (fun KQ hKQ => ?_)
        apply Exists.intro
        refine ⟨fun w' hw' => ?_, ?_⟩
        · subst hw'; go_simp; exact rfl
        go_simp
        refine hKQ _ ?_
        clear hKQ KQ
        refine qs rfl (fun KQ hKQ => ?_)
        apply Exists.intro
        refine ⟨fun w' hw' => ?_, ?_⟩
        · go_simp; exact rfl
        go_simp
        refine hKQ _ ?_
        clear hKQ KQ
        refine qs rfl (fun KQ hKQ => ?_)
        apply Exists.intro
        refine ⟨fun w' hw' => ?_, ?_⟩
        · subst hw'; go_simp; exact rfl
        go_simp
        refine hKQ _ ?_
        clear hKQ KQ
        refine qs rfl (fun KQ hKQ => ?_)
        apply Exists.intro
        refine ⟨fun w' hw' => ?_, ?_⟩
        · subst hw'; go_simp; exact rfl
        go_simp
        refine hKQ _ ?_
        clear hKQ KQ
        refine qs rfl (fun KQ hKQ => ?_)
        apply Exists.intro
        refine ⟨fun w' hw' => ?_, ?_⟩
        · go_simp; exact rfl
        go_simp
        refine hKQ _ ?_
        clear hKQ KQ
        refine qs rfl (fun KQ hKQ => ?_)
        apply Exists.intro
        refine ⟨fun w' hw' => ?_, ?_⟩
        · subst hw'; go_simp; exact rfl
        go_simp
        refine hKQ _ ?_
        clear hKQ KQ
        refine qs rfl (fun KQ hKQ => ?_)
        apply Exists.intro
        refine ⟨fun w' hw' => ?_, ?_⟩
        · go_simp; exact rfl
        go_simp
        refine hKQ _ ?_
        clear hKQ KQ
        refine qs rfl (fun KQ hKQ => ?_)
        apply Exists.intro
        refine ⟨fun w' hw' => ?_, ?_⟩
        · subst hw'; go_simp; exact rfl
        go_simp
        refine hKQ _ ?_
        clear hKQ KQ
        refine qs rfl (fun KQ hKQ => ?_)
        apply Exists.intro
        refine ⟨fun w' hw' => ?_, ?_⟩
        · go_simp; exact rfl
        go_simp
        refine hKQ _ ?_
        clear hKQ KQ
        refine wpQuiet_nil ?_
        intro w' hw'
        subst hw'
        gi_wp2_with fail
        refine ⟨trivial, (callsIn_wide.2 (HBN.out _)).mono ?_⟩
        rintro e w5 ⟨rfl, hb5⟩
        have hb6 : Below wr.heap.size wr w5 := (Below.refl wr.heap.size wr).drew.trans hb5
        have hsz : w1.heap.size ≤ wr.heap.size := Nat.le_trans hs HDR.out.2.1
        have hS1 := HS1.out
        have K5 := hidd (And.intro (HDR.out.1.more (B := wr.heap.size) (by omega) (by omega) hb6) (HDR.out.2.trans (Kx.of_below hb6)))
        clear hb5 hb6 k1 e0 e1 x0 y0 x1 y1 x2 y2 hS1 hsz
        by_cases hbn : bnd X Y m lo hi > 0
        · have hdec : decide ((b2 - b1) * (a1 - a0) - (b1 - b0) * (a2 - a1) > 0) = true := by simp only [HBD.out]; exact decide_eq_true hbn
          rw [hdec]
          have hnow := K5.out.1.now
          have hdone := K5.out.1.done (HPH.out m hml)
          dsimp only at hdone
          have hvb : 2 ≤ V m lo ∧ V m lo ≤ m + 2 := by rw [HV.out]; exact cupV_bd _ _ _
          have HST := hidd (show cupK (upB X Y) (fun h => V h lo) lo hi (m + 1) = if cupK (upB X Y) (fun h => V h lo) lo hi m < V m lo + 1 then V m lo + 1 else cupK (upB X Y) (fun h => V h lo) lo hi m by
            rw [cupK, if_pos (by unfold upB; exact decide_eq_true hbn), Int.max_def]; split <;> split <;> omega)
          obtain ⟨x, hx⟩ : ∃ x, x = cupK (upB X Y) (fun h => V h lo) lo hi m := ⟨_, rfl⟩
          obtain ⟨y, hy⟩ : ∃ y, y = V m lo := ⟨_, rfl⟩
          rw [← hx] at hnow HST
          rw [← hy] at hdone HST hvb
          obtain ⟨E, hE⟩ : ∃ E, E = eN lo + m := ⟨_, rfl⟩
          rw [← hE] at hdone
          have hE136 : E < 136 := by
            have h1 := eN_mono (show lo + 1 ≤ 17 by omega)
            rw [eN] at h1
            have h2 : eN 17 = 136 := rfl
            omega
          have HED := hidd (fun W => (show Calls Try.prog 53 #[.int .i64 (m : Int), .int .i64 (lo : Int)] W fun e w' => e = .returned (.int .i64 (E : Int)) ∧ W = w' by
            have h := edge54 (m : Int) (lo : Int) W (by omega) (by omega) (by omega) (by omega) (by omega)
            have e : eix (m : Int) (lo : Int) = (E : Int) := by
              unfold eix
              rw [if_neg (by omega), ← eN_edg, hE]; push_cast; omega
            rwa [e] at h))
          have hwy : IntKind.i64.wrap (y + 1) = y + 1 := IntWalk.i64_in _ (by omega)
          have hEI : (E : Int) < 136 := by omega
          have f1 := K5.out.1.free q
          have e0 := (HBE.out _ K5.out.2).cell (j := 0) (show _ = some (Value.int .i64 (lo : Int)) from rfl)
          have HSK := hidd (show RelCu X Y N g V w (cpP V 1 pre) pre [(q, cupK (upB X Y) (fun h => V h lo) lo hi (m + 1))] (w5.drew.setCell ⟨w.heap.size + 1, q, none⟩ (.int .i64 (if x < y + 1 then y + 1 else x))) ∧ Kx [w.heap.size + 1 + 1 + 1] w1.heap.size Wx (w5.drew.setCell ⟨w.heap.size + 1, q, none⟩ (.int .i64 (if x < y + 1 then y + 1 else x))) by
            rw [← HST.out]
            have hd := K5.out.1.more (B := w5.heap.size) (by have := K5.out.1.2.2.1.lt; omega) (Blk.lt K5.out.1.2.2.2.1) (Below.refl _ _).drew
            exact ⟨hd.put HGL2 hq136 HNE.out _, HKX.out _ _ _ (K5.out.2.trans (Kx.of_below (Below.refl _ _).drew))⟩)
          clear hx hy hE hvb HST hbn
          gi_wp2_with fail
          refine wpIn_region_tail_lit (lets_round l' _) 13 (fun w' => w' = w5.drew) (by decide) (by kernel_rfl) rfl (by kernel_rfl) (by kernel_rfl) (by kernel_rfl) (by kernel_rfl) (by kernel_rfl) ?_
          simp only [List.take_succ_cons, List.take_zero, List.drop_succ_cons, List.drop_zero, List.map_cons, List.map_nil, List.cons_append, List.nil_append, idle]
          refine qs rfl (fun KQ hKQ => ?_)
          apply Exists.intro
          refine ⟨fun w' hw' => ?_, ?_⟩
          · go_simp; exact rfl
          go_simp
          refine hKQ _ ?_
          clear hKQ KQ
          refine qs rfl (fun KQ hKQ => ?_)
          apply Exists.intro
          refine ⟨fun w' hw' => ?_, ?_⟩
          · go_simp; exact rfl
          go_simp
          refine hKQ _ ?_
          clear hKQ KQ
          refine qs rfl (fun KQ hKQ => ?_)
          apply Exists.intro
          refine ⟨fun w' hw' => ?_, ?_⟩
          · go_simp; exact rfl
          go_simp
          refine hKQ _ ?_
          clear hKQ KQ
          refine qs rfl (fun KQ hKQ => ?_)
          apply Exists.intro
          refine ⟨fun w' hw' => ?_, ?_⟩
          · subst hw'; go_simp; exact rfl
          go_simp
          refine hKQ _ ?_
          clear hKQ KQ
          refine qs rfl (fun KQ hKQ => ?_)
          apply Exists.intro
          refine ⟨fun w' hw' => ?_, ?_⟩
          · go_simp; exact rfl
          go_simp
          refine hKQ _ ?_
          clear hKQ KQ
          refine qs rfl (fun KQ hKQ => ?_)
          apply Exists.intro
          refine ⟨fun w' hw' => ?_, ?_⟩
          · go_simp; exact rfl
          go_simp
          refine hKQ _ ?_
          clear hKQ KQ
          refine qs rfl (fun KQ hKQ => ?_)
          apply Exists.intro
          refine ⟨fun w' hw' => ?_, ?_⟩
          · subst hw'; go_simp; exact rfl
          go_simp
          refine hKQ _ ?_
          clear hKQ KQ
          refine qs rfl (fun KQ hKQ => ?_)
          apply Exists.intro
          refine ⟨fun w' hw' => ?_, ?_⟩
          · subst hw'; go_simp; exact (HED.out _).mono fun _ _ h => ⟨h.1, h.2.symm⟩
          go_simp
          refine hKQ _ ?_
          clear hKQ KQ
          refine qs rfl (fun KQ hKQ => ?_)
          apply Exists.intro
          refine ⟨fun w' hw' => ?_, ?_⟩
          · go_simp; exact rfl
          go_simp
          refine hKQ _ ?_
          clear hKQ KQ
          refine qs rfl (fun KQ hKQ => ?_)
          apply Exists.intro
          refine ⟨fun w' hw' => ?_, ?_⟩
          · subst hw'; go_simp; exact rfl
          go_simp
          refine hKQ _ ?_
          clear hKQ KQ
          refine qs rfl (fun KQ hKQ => ?_)
          apply Exists.intro
          refine ⟨fun w' hw' => ?_, ?_⟩
          · go_simp; exact rfl
          go_simp
          refine hKQ _ ?_
          clear hKQ KQ
          refine qs rfl (fun KQ hKQ => ?_)
          apply Exists.intro
          refine ⟨fun w' hw' => ?_, ?_⟩
          · go_simp; exact rfl
          go_simp
          refine hKQ _ ?_
          clear hKQ KQ
          refine qs rfl (fun KQ hKQ => ?_)
          apply Exists.intro
          refine ⟨fun w' hw' => ?_, ?_⟩
          · go_simp; exact rfl
          go_simp
          refine hKQ _ ?_
          clear hKQ KQ
          refine qs rfl (fun KQ hKQ => ?_)
          apply Exists.intro
          refine ⟨fun w' hw' => ?_, ?_⟩
          · go_simp; exact rfl
          go_simp
          refine hKQ _ ?_
          clear hKQ KQ
          refine wpQuiet_nil ?_
          intro w' hw'
          subst hw'
          gi_wp2_with fail
          go_roundw
          case rel => exact ⟨m + 1, by omega, by go_num, HSK.out.1, HSK.out.2⟩
          case measure => simp [intOf]; omega
        · have hdec : decide ((b2 - b1) * (a1 - a0) - (b1 - b0) * (a2 - a1) > 0) = false := by simp only [HBD.out]; exact decide_eq_false hbn
          rw [hdec]
          have HST := hidd (show cupK (upB X Y) (fun h => V h lo) lo hi (m + 1) = cupK (upB X Y) (fun h => V h lo) lo hi m by
            rw [cupK, if_neg (by unfold upB; rw [decide_eq_true_iff]; exact hbn)])
          have HSK := hidd (show RelCu X Y N g V w (cpP V 1 pre) pre [(q, cupK (upB X Y) (fun h => V h lo) lo hi (m + 1))] w5 ∧ Kx [w.heap.size + 1 + 1 + 1] w1.heap.size Wx w5 by rw [HST.out]; exact K5.out)
          clear hbn
          gi_wp2_with fail
          go_roundw
          case rel => exact ⟨m + 1, by omega, by go_num, HSK.out.1, HSK.out.2⟩
          case measure => simp [intOf]; omega
      · obtain rfl : m = lo := by omega
        have HVE := hidd (show V m hi = cupK (upB X Y) (fun h => V h m) m hi m by rw [HV.out]; exact cupV_eq _ _ _)
        have hnow := HK2.out.1.now
        have kb := HK2.out.1.2.2.1.cell (j := 0) (show _ = some (Value.int .i64 (cpP V 1 pre)) from rfl)
        have fb := HK2.out.1.2.2.1.fro 0
        rw [← HVE.out] at hnow
        have HPS := hidd (show cpP V 1 (pre ++ [(q, m, hi)]) = if cpP V 1 pre < V m hi then V m hi else cpP V 1 pre by
          rw [cpP_snoc, Int.max_def]; dsimp only; split <;> split <;> omega)
        have HSK := hidd (show Kx [w.heap.size + 1 + 1 + 1] w1.heap.size Wx (wr.drew.setCell ⟨w.heap.size + 1 + 1, 0, none⟩ (.int .i64 (if cpP V 1 pre < V m hi then V m hi else cpP V 1 pre))) ∧ RelCu X Y N g V w (cpP V 1 (pre ++ [(q, m, hi)])) (pre ++ [(q, m, hi)]) [] (wr.drew.setCell ⟨w.heap.size + 1 + 1, 0, none⟩ (.int .i64 (if cpP V 1 pre < V m hi then V m hi else cpP V 1 pre))) by
          rw [HPS.out]
          have hd := HK2.out.1.more (B := wr.heap.size) (by have := HK2.out.1.2.2.1.lt; omega) (Blk.lt HK2.out.1.2.2.2.1) (Below.refl _ _).drew
          exact ⟨HKY.out _ _ (HK2.out.2.trans (Kx.of_below (Below.refl _ _).drew)), (hd.fin HVE.out.symm).best HGL2 _⟩)
        obtain ⟨y, hy⟩ : ∃ y, y = V m hi := ⟨_, rfl⟩
        obtain ⟨x, hx⟩ : ∃ x, x = cpP V 1 pre := ⟨_, rfl⟩
        rw [← hy] at hnow HSK
        rw [← hx] at kb HSK
        clear hx hy
        gi_wp2_with fail
        refine wpIn_region_tail_lit (lets_round l' _) 5 (fun w' => w' = wr.drew) (by decide) (by kernel_rfl) rfl (by kernel_rfl) (by kernel_rfl) (by kernel_rfl) (by kernel_rfl) (by kernel_rfl) ?_
        simp only [List.take_succ_cons, List.take_zero, List.drop_succ_cons, List.drop_zero, List.map_cons, List.map_nil, List.cons_append, List.nil_append, idle]
        refine qs rfl (fun KQ hKQ => ?_)
        apply Exists.intro
        refine ⟨fun w' hw' => ?_, ?_⟩
        · subst hw'; go_simp; exact rfl
        go_simp
        refine hKQ _ ?_
        clear hKQ KQ
        refine qs rfl (fun KQ hKQ => ?_)
        apply Exists.intro
        refine ⟨fun w' hw' => ?_, ?_⟩
        · go_simp; exact rfl
        go_simp
        refine hKQ _ ?_
        clear hKQ KQ
        refine qs rfl (fun KQ hKQ => ?_)
        apply Exists.intro
        refine ⟨fun w' hw' => ?_, ?_⟩
        · go_simp; exact rfl
        go_simp
        refine hKQ _ ?_
        clear hKQ KQ
        refine qs rfl (fun KQ hKQ => ?_)
        apply Exists.intro
        refine ⟨fun w' hw' => ?_, ?_⟩
        · subst hw'; go_simp; exact rfl
        go_simp
        refine hKQ _ ?_
        clear hKQ KQ
        refine qs rfl (fun KQ hKQ => ?_)
        apply Exists.intro
        refine ⟨fun w' hw' => ?_, ?_⟩
        · go_simp; exact rfl
        go_simp
        refine hKQ _ ?_
        clear hKQ KQ
        refine qs rfl (fun KQ hKQ => ?_)
        apply Exists.intro
        refine ⟨fun w' hw' => ?_, ?_⟩
        · go_simp; exact rfl
        go_simp
        refine hKQ _ ?_
        clear hKQ KQ
        refine wpQuiet_nil ?_
        intro w' hw'
        subst hw'
        gi_wp2_with fail
        all_goals
          have h := HSK.out
          first
            | exact h
            | (rw [if_pos (by omega)] at h; exact h)
            | (rw [if_neg (by omega)] at h; exact h)
  case done =>
    intro D Wx hD hI hdef
    have hM := hidd (show Mks w1.heap.size [D] Wx from (Mks.nil _ _).cons hD (by simp) hdef)
    rw [cpP_eseq] at hI
    have HI := hidd hI
    have hc := hI.2.2.1.cell (j := 0) (show _ = some (Value.int .i64 (cpJ V N)) from rfl)
    clear hI hdef
    gi_wp2
    refine leave_marks (B := w1.heap.size) (v := .int .i64 (cpJ V N)) [D] _ hM.out (fun W' hb _ => ⟨?_, ?_⟩)
    · simp [results, Try.results39, go_sem]
    · have h := HI.out.more (by have := HS1.out; omega) (by have := HS1.out; have := HGL.out; omega) hb
      exact ⟨rfl, h.2.2.2.2⟩
  case stop =>
    intro D pre x rest Wx hD hall hIx hdef
    exact hIx.elim
end Go.Proofs.Ytljlbonoohhhdaa
