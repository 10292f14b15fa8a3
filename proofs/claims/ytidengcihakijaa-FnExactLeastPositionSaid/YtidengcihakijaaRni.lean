/- Renumbered positions: the program. -/
import Derived.Test.YtidengcihakijaaRns
namespace Go.Proofs.Ytidengcihakijaa
set_option linter.unusedVariables false
set_option linter.unusedSimpArgs false
open Go Go.RowKit Go.Shelf
attribute [local go_sem] Oper.semAt_some
/-- The boxes of both lists and of the new one, and the new one. -/
def RelRi (zs ps : List Int) (b off cap pb poff capp : Nat) (w : World) (L : List Int) (wr : World) : Prop :=
  Blk wr w.heap.size #[.slice (some ⟨b, off, none⟩) zs.length cap] 22 ∧ Blk wr (w.heap.size + 1) #[.slice (some ⟨pb, poff, none⟩) ps.length capp] 22 ∧
  Blk wr (w.heap.size + 1 + 1 + 1) #[.slice (some ⟨w.heap.size + 1 + 1, 0, none⟩) zs.length zs.length] 22 ∧ Blk wr (w.heap.size + 1 + 1) (icells L).toArray 2 ∧ L.length = zs.length ∧
  SlI wr (some ⟨b, off, none⟩) zs ∧ SlI wr (some ⟨pb, poff, none⟩) ps ∧ Below w.heap.size w wr
theorem RelRi.below {zs ps : List Int} {b off cap pb poff capp : Nat} {w : World} {L : List Int} {wr w2 : World} (h : RelRi zs ps b off cap pb poff capp w L wr) {C : Nat} (hC : w.heap.size + 1 + 1 + 1 < C) (hs : SlI w (some ⟨b, off, none⟩) zs) (hp : SlI w (some ⟨pb, poff, none⟩) ps) (hb : Below C wr w2) : RelRi zs ps b off cap pb poff capp w L w2 := by
  obtain ⟨h1, h2, h3, h4, h5, h6, h7, h8⟩ := h
  have hbe := h8.trans (hb.mono (by omega))
  exact ⟨h1.below hb (by omega), h2.below hb (by omega), h3.below hb (by omega), h4.below hb (by omega), h5, hs.below hbe (Nat.le_refl _), hp.below hbe (Nat.le_refl _), hbe⟩
theorem zeros_cells (K : Nat) : zrow K = (icells (List.replicate K 0)).toArray := zrow_icells K
set_option maxRecDepth 100000 in
set_option maxHeartbeats 4000000 in
theorem ren51 (N : Nat) (zs ps : List Int) (hN1 : 1 ≤ N) (hN : N ≤ 5) (hlen : zs.length = eN N) (hO : Ordr N ps) (b off cap : Nat) (pb poff capp : Nat) (w : World) (hbw : b < w.heap.size) (hpw : pb < w.heap.size) (hs : SlI w (some ⟨b, off, none⟩) zs) (hp : SlI w (some ⟨pb, poff, none⟩) ps) :
    Calls Try.prog 21 #[.int .i64 (N : Int), .slice (some ⟨b, off, none⟩) zs.length cap, .slice (some ⟨pb, poff, none⟩) ps.length capp] w (LOne w (rnZ N zs ps)) := by
  have hl10 : zs.length ≤ 10 := by rw [hlen]; exact Nat.le_trans (eN_mono hN) (by decide)
  have hmk := make29 zs.length (by omega)
  rw [zeros_cells] at hmk
  have HZ := hidd (rnZ_eq hlen hO.len hO.nod hO.bd)
  have HS := hidd hs
  have HP := hidd hp
  have HLE := hidd hlen
  have HPL := hidd hO.len
  have hpl : ps.length ≤ 5 := by rw [hO.len]; exact hN
  have hb4 : Below w.heap.size w ((((w.alloc (.cells #[.slice (some ⟨b, off, none⟩) zs.length cap] 22)).alloc (.cells #[.slice (some ⟨pb, poff, none⟩) ps.length capp] 22)).alloc (.cells (icells (List.replicate zs.length 0)).toArray 2)).alloc (.cells #[.slice (some ⟨w.heap.size + 1 + 1, 0, none⟩) zs.length zs.length] 22)) :=
    ((((Below.refl _ _).alloc (Nat.le_refl _) _).alloc (by simp) _).alloc (by simp; omega) _).alloc (by simp; omega) _
  have HR0 := hidd (show RelRi zs ps b off cap pb poff capp w (rnL zs ps (List.replicate zs.length 0) []) ((((w.alloc (.cells #[.slice (some ⟨b, off, none⟩) zs.length cap] 22)).alloc (.cells #[.slice (some ⟨pb, poff, none⟩) ps.length capp] 22)).alloc (.cells (icells (List.replicate zs.length 0)).toArray 2)).alloc (.cells #[.slice (some ⟨w.heap.size + 1 + 1, 0, none⟩) zs.length zs.length] 22)) from
    ⟨(((Blk.new _ _ _ _ rfl).alloc _).alloc _).alloc _, ((Blk.new _ _ _ _ (by simp)).alloc _).alloc _, Blk.new _ _ _ _ (by simp), (Blk.new _ _ _ _ (by simp)).alloc _, by simp [rnL], hs.below hb4 (Nat.le_refl _), hp.below hb4 (Nat.le_refl _), hb4⟩)
  have c0 := (Blk.new w #[.slice (some ⟨b, off, none⟩) zs.length cap] 22 _ rfl)
  have c4 := ((c0.alloc (.cells #[.slice (some ⟨pb, poff, none⟩) ps.length capp] 22)).cell (j := 0) (show _ = some (Value.slice (some ⟨b, off, none⟩) zs.length cap) from rfl))
  clear hs hp hlen hb4 c0
  refine (callsIn_wide (n := 3)).1 (callsIn_of_wp_marks Try.func21 rfl trivial ?_ rfl)
  simp only [Try.ntmps21, List.size_toArray, List.length_cons, List.length_nil, Nat.reduceAdd, Nat.reduceSub, Array.replicate_succ, Array.replicate_zero, List.push_toArray, List.append_toArray, List.nil_append, List.cons_append]
  gi_wp2_with fail
  refine ⟨trivial, (callsIn_wide.2 (edges66 _ _)).mono ?_⟩
  rintro e w1 ⟨rfl, hw1⟩
  obtain ⟨W0, hW0⟩ : ∃ W0, W0 = ((((w.alloc (.cells #[.slice (some ⟨b, off, none⟩) zs.length cap] 22)).alloc (.cells #[.slice (some ⟨pb, poff, none⟩) ps.length capp] 22)).alloc (.cells (icells (List.replicate zs.length 0)).toArray 2)).alloc (.cells #[.slice (some ⟨w.heap.size + 1 + 1, 0, none⟩) zs.length zs.length] 22)) := ⟨_, rfl⟩
  have hz : W0.heap.size = w.heap.size + 1 + 1 + 1 + 1 := by rw [hW0]; simp
  rw [← hW0] at hw1 HR0 ⊢
  rw [hz]
  have hb1 : Below W0.heap.size W0 w1 := by rw [← hw1]; exact (Below.refl _ _).alloc (Nat.le_refl _) _
  have hs1 : w1.heap.size = w.heap.size + 1 + 1 + 1 + 1 + 1 := by rw [← hw1]; simp [hz]
  have hn1 : Blk w1 (w.heap.size + 1 + 1 + 1 + 1) #[.int .i64 (N : Int)] 2 := by rw [← hw1]; exact Blk.new _ _ _ _ (by rw [hz])
  have HR1 := hidd (HR0.out.below (show w.heap.size + 1 + 1 + 1 < W0.heap.size by omega) HS.out HP.out hb1)
  have HIT := hidd (iter73 1 (w.heap.size + 1 + 1 + 1 + 1) N hN1 (by omega) w1 hn1)
  have HS1 := hidd hs1
  have HST := hidd (show Stab w1.heap.size (fun (pre : List (Nat × Nat × Nat)) Wx => RelRi zs ps b off cap pb poff capp w (rnL zs ps (List.replicate zs.length 0) pre) Wx) from
    fun pre A A' h hb => h.below (by omega) HS.out HP.out hb)
  clear hw1 hb1 hs1 hn1 hz hW0 c4 hmk
  gi_wp2_with fail
  refine range_gives rfl (enters_of Try.func60 (by kernel_rfl) rfl) HIT.out (fun b hb => by simp only [List.mem_cons, List.not_mem_nil, or_false] at hb; have := HS1.out; omega) (fun _ => rfl)
    (fun (pre : List (Nat × Nat × Nat)) Wx => RelRi zs ps b off cap pb poff capp w (rnL zs ps (List.replicate zs.length 0) pre) Wx) (fun (pre : List (Nat × Nat × Nat)) Wx => False) HST.out (fun _ _ _ h _ _ => h) HR1.out
    (fun x a' Wx => ∃ be, a' = { tmps := #[.int .i64 (N : Int), .slice (some ⟨b, off, none⟩) zs.length cap, .slice (some ⟨pb, poff, none⟩) ps.length capp, undef, .pointer (some ⟨w.heap.size, 0, none⟩), .pointer (some ⟨w.heap.size + 1, 0, none⟩), .slice none 0 0, .pointer (some ⟨w.heap.size + 1 + 1 + 1, 0, none⟩), .int .i64 (x.1 : Int), .pointer (some ⟨be, 0, none⟩), .slice (some ⟨b, off, none⟩) zs.length cap, .int .i64 (zs.length : Int), .slice (some ⟨w.heap.size + 1 + 1, 0, none⟩) zs.length zs.length, .int .i64 (N : Int), .func (.func 60) #[] #[.pointer (some ⟨w.heap.size + 1 + 1 + 1 + 1, 0, none⟩)], .int .i64 (x.1 : Int), .agg #[.int .i64 (x.2.1 : Int), .int .i64 (x.2.2 : Int)], undef, undef, undef, undef, undef, undef, undef, undef, undef, undef, undef, undef, undef, undef, undef, undef, undef, undef], defers := [] } ∧ Blk Wx be #[.int .i64 (x.2.1 : Int), .int .i64 (x.2.2 : Int)] 70 ∧ w1.heap.size ≤ be)
    (fun x a' A l' o o' h hl' ho => by obtain ⟨be, h1, h2, h3⟩ := h; exact ⟨be, h1, blk_put h2 hl' ho o', h3⟩) ?assign ?body ?done ?stop
  case assign =>
    intro l' pre x rest Wx Kx' hall hI hs hK
    have HK := hidd hK
    clear hK hI
    dsimp only [encD]
    gi_wp2
    refine HK.out _ _ ((Below.refl _ _).alloc (Nat.le_refl _) _) ⟨Wx.heap.size, rfl, Blk.new _ _ _ _ rfl, hs⟩
  case body =>
    rintro l' pre ⟨q, lo, hi⟩ rest a' Wx hall hs hI ⟨be, rfl, hblk, hWb⟩
    obtain ⟨hlh, hhN⟩ := eseq_bd (show (q, lo, hi) ∈ eseq N by rw [hall]; simp)
    have hq := eseq_mem (show (q, lo, hi) ∈ eseq N by rw [hall]; simp)
    dsimp only at hq hlh hhN hblk
    have hk := hO.key hN hlh hhN q
    have g1 := hO.get (show lo < N by omega)
    have g2 := hO.get hhN
    have gne := hO.ne hlh hhN
    have hm := eN_mono (show hi + 1 ≤ N by omega)
    rw [eN] at hm
    have hLE := HLE.out
    have hRow := hidd (rnL_put zs ps (List.replicate zs.length 0) pre (q, lo, hi))
    dsimp only at hRow
    obtain ⟨K, hK⟩ : ∃ K, K = kix ps (q, lo, hi) := ⟨_, rfl⟩
    rw [← hK] at hk hRow
    obtain ⟨hk1, xK⟩ := hk
    have hql : q < zs.length := by omega
    have hKl : K < zs.length := by omega
    have hil : lo < ps.length := by have := HPL.out; omega
    have hjl : hi < ps.length := by have := HPL.out; omega
    obtain ⟨r1, r2, r3, r4, r5, r6, r7, r8⟩ := hI
    rcases r6 with hz | ⟨b', off', ha, hc⟩
    · subst hz; simp at hql
    · cases ha
      rcases r7 with hz | ⟨pb', poff', ha, hpc⟩
      · subst hz; simp at hil
      · cases ha
        have cE := hc q hql
        have ci := hpc lo hil
        have cj := hpc hi hjl
        have k4 := r1.cell (j := 0) (show _ = some (Value.slice (some ⟨b, off, none⟩) zs.length cap) from rfl)
        have k5 := r2.cell (j := 0) (show _ = some (Value.slice (some ⟨pb, poff, none⟩) ps.length capp) from rfl)
        have k7 := r3.cell (j := 0) (show _ = some (Value.slice (some ⟨w.heap.size + 1 + 1, 0, none⟩) zs.length zs.length) from rfl)
        have e0 := hblk.cell (j := 0) (show _ = some (Value.int .i64 (lo : Int)) from rfl)
        have e1 := hblk.cell (j := 1) (show _ = some (Value.int .i64 (hi : Int)) from rfl)
        obtain ⟨old, hold⟩ : ∃ old, Wx.cell? ⟨w.heap.size + 1 + 1, K, none⟩ = some old := ⟨_, r4.cell (icells_get (by rw [r5]; exact hKl))⟩
        have hfro := r4.fro K
        obtain ⟨z, hz⟩ : ∃ z, z = zs.getD q 0 := ⟨_, rfl⟩
        obtain ⟨pi, hpi⟩ : ∃ z, z = ps.getD lo 0 := ⟨_, rfl⟩
        obtain ⟨pj, hpj⟩ : ∃ z, z = ps.getD hi 0 := ⟨_, rfl⟩
        rw [← hz] at cE hRow
        rw [← hpi] at ci g1 xK gne
        rw [← hpj] at cj g2 xK gne
        have hbe := r8.drew.setCell (p := ⟨w.heap.size + 1 + 1, K, none⟩) (show w.heap.size ≤ w.heap.size + 1 + 1 by omega) (.int .i64 z)
        have hset := r4.drew.same K (.int .i64 z)
        rw [icells_set] at hset
        have K1 := hidd (show Kx [w.heap.size + 1 + 1 + 1 + 1] w1.heap.size Wx (Wx.drew.setCell ⟨w.heap.size + 1 + 1, K, none⟩ (.int .i64 z)) ∧ RelRi zs ps b off cap pb poff capp w (rnL zs ps (List.replicate zs.length 0) (pre ++ [(q, lo, hi)])) (Wx.drew.setCell ⟨w.heap.size + 1 + 1, K, none⟩ (.int .i64 z)) from
          ⟨⟨by simp [World.setCell], fun k hk hb => heap_setCell_other Wx.drew ⟨w.heap.size + 1 + 1, K, none⟩ k (.int .i64 z) (by
            show k ≠ w.heap.size + 1 + 1
            have := HS1.out
            rcases hb with hb | hb
            · omega
            · simp only [List.mem_cons, List.not_mem_nil, or_false] at hb; omega)⟩,
          ⟨r1.drew.other _ _ (by show _ ≠ w.heap.size + 1 + 1; omega), r2.drew.other _ _ (by show _ ≠ w.heap.size + 1 + 1; omega), r3.drew.other _ _ (by show _ ≠ w.heap.size + 1 + 1; omega), by rw [hRow.out]; exact hset, by rw [hRow.out, List.length_set]; exact r5, HS.out.below hbe (Nat.le_refl _), HP.out.below hbe (Nat.le_refl _), hbe⟩⟩)
        have HC54 := hidd (fun w => (show Calls Try.prog 42 #[.int .i64 pi, .int .i64 pj] w fun e w' => e = .returned (.int .i64 (K : Int)) ∧ w = w' by
          have := edge54 pi pj w gne (by omega) (by omega) (by omega) (by omega); rwa [xK] at this))
        have hqI : (q : Int) < (zs.length : Int) := by omega
        have hKI : (K : Int) < (zs.length : Int) := by omega
        have hiI : (lo : Int) < (ps.length : Int) := by omega
        have hjI : (hi : Int) < (ps.length : Int) := by omega
        clear hc hpc hz hpi hpj hset hbe hLE hK hall r1 r2 r3 r4 r5 r8 hblk hq gne xK
        gi_wp2_with fail
        refine wpIn_region_tail_lit (lets_round l' _) 17 (fun w' => w' = Wx.drew) (by decide) (by kernel_rfl) rfl (by kernel_rfl) (by kernel_rfl) (by kernel_rfl) (by kernel_rfl) (by kernel_rfl) ?_
        simp only [List.take_succ_cons, List.take_zero, List.drop_succ_cons, List.drop_zero, List.map_cons, List.map_nil, List.cons_append, List.nil_append, idle]
        refine qs rfl (fun KQ hKQ => ?_)
        apply Exists.intro
        refine ⟨fun w' hw' => ?_, ?_⟩
        · subst hw'; go_simp; exact rfl
        go_simp
        refine hKQ _ ?_
        clear hKQ KQ
        refine qs rfl (fun KQ hKQ => ?_)
        apply Exists.intro
        refine ⟨fun w' hw' => ?_, ?_⟩
        · subst hw'; go_simp; exact rfl
        go_simp
        refine hKQ _ ?_
        clear hKQ KQ
        refine qs rfl (fun KQ hKQ => ?_)
        apply Exists.intro
        refine ⟨fun w' hw' => ?_, ?_⟩
        · go_simp; exact rfl
        go_simp
        refine hKQ _ ?_
        clear hKQ KQ
        refine qs rfl (fun KQ hKQ => ?_)
        apply Exists.intro
        refine ⟨fun w' hw' => ?_, ?_⟩
        · subst hw'; go_simp; exact rfl
        go_simp
        refine hKQ _ ?_
        clear hKQ KQ
        refine qs rfl (fun KQ hKQ => ?_)
        apply Exists.intro
        refine ⟨fun w' hw' => ?_, ?_⟩
        · go_simp; exact rfl
        go_simp
        refine hKQ _ ?_
        clear hKQ KQ
        refine qs rfl (fun KQ hKQ => ?_)
        apply Exists.intro
        refine ⟨fun w' hw' => ?_, ?_⟩
        · subst hw'; go_simp; exact rfl
        go_simp
        refine hKQ _ ?_
        clear hKQ KQ
        refine qs rfl (fun KQ hKQ => ?_)
        apply Exists.intro
        refine ⟨fun w' hw' => ?_, ?_⟩
        · subst hw'; go_simp; exact rfl
        go_simp
        refine hKQ _ ?_
        clear hKQ KQ
        refine qs rfl (fun KQ hKQ => ?_)
        apply Exists.intro
        refine ⟨fun w' hw' => ?_, ?_⟩
        · go_simp; exact rfl
        go_simp
        refine hKQ _ ?_
        clear hKQ KQ
        refine qs rfl (fun KQ hKQ => ?_)
        apply Exists.intro
        refine ⟨fun w' hw' => ?_, ?_⟩
        · subst hw'; go_simp; exact rfl
        go_simp
        refine hKQ _ ?_
        clear hKQ KQ
        refine qs rfl (fun KQ hKQ => ?_)
        apply Exists.intro
        refine ⟨fun w' hw' => ?_, ?_⟩
        · go_simp; exact rfl
        go_simp
        refine hKQ _ ?_
        clear hKQ KQ
        refine qs rfl (fun KQ hKQ => ?_)
        apply Exists.intro
        refine ⟨fun w' hw' => ?_, ?_⟩
        · subst hw'; go_simp; exact rfl
        go_simp
        refine hKQ _ ?_
        clear hKQ KQ
        refine qs rfl (fun KQ hKQ => ?_)
        apply Exists.intro
        refine ⟨fun w' hw' => ?_, ?_⟩
        · subst hw'; go_simp; exact (HC54.out _).mono fun _ _ h => ⟨h.1, h.2.symm⟩
        go_simp
        refine hKQ _ ?_
        clear hKQ KQ
        refine qs rfl (fun KQ hKQ => ?_)
        apply Exists.intro
        refine ⟨fun w' hw' => ?_, ?_⟩
        · subst hw'; go_simp; exact rfl
        go_simp
        refine hKQ _ ?_
        clear hKQ KQ
        refine qs rfl (fun KQ hKQ => ?_)
        apply Exists.intro
        refine ⟨fun w' hw' => ?_, ?_⟩
        · go_simp; exact rfl
        go_simp
        refine hKQ _ ?_
        clear hKQ KQ
        refine qs rfl (fun KQ hKQ => ?_)
        apply Exists.intro
        refine ⟨fun w' hw' => ?_, ?_⟩
        · go_simp; exact rfl
        go_simp
        refine hKQ _ ?_
        clear hKQ KQ
        refine qs rfl (fun KQ hKQ => ?_)
        apply Exists.intro
        refine ⟨fun w' hw' => ?_, ?_⟩
        · subst hw'; go_simp; exact rfl
        go_simp
        refine hKQ _ ?_
        clear hKQ KQ
        refine qs rfl (fun KQ hKQ => ?_)
        apply Exists.intro
        refine ⟨fun w' hw' => ?_, ?_⟩
        · go_simp; exact rfl
        go_simp
        refine hKQ _ ?_
        clear hKQ KQ
        refine qs rfl (fun KQ hKQ => ?_)
        apply Exists.intro
        refine ⟨fun w' hw' => ?_, ?_⟩
        · go_simp; exact rfl
        go_simp
        refine hKQ _ ?_
        clear hKQ KQ
        refine wpQuiet_nil ?_
        intro w' hw'
        subst hw'
        gi_wp2_with fail
        exact K1.out
  case done =>
    intro D Wx hD hI hdef
    have hM := hidd (show Mks w1.heap.size [D] Wx from (Mks.nil _ _).cons hD (by simp) hdef)
    rw [HZ.out] at hI
    have HI := hidd hI
    have hc := hI.2.2.1.cell (j := 0) (show _ = some (Value.slice (some ⟨w.heap.size + 1 + 1, 0, none⟩) zs.length zs.length) from rfl)
    clear hI hdef
    gi_wp2
    refine leave_marks (B := w1.heap.size) (v := .slice (some ⟨w.heap.size + 1 + 1, 0, none⟩) zs.length zs.length) [D] _ hM.out (fun W' hb _ => ⟨?_, ?_⟩)
    · simp [results, Try.results21, go_sem]
    · have h := HI.out.below (C := w1.heap.size) (by have := HS1.out; omega) HS.out HP.out hb
      exact ⟨_, _, by rw [rnZ_len], own_blk0 h.2.2.2.1 (by omega), h.2.2.2.2.2.2.2⟩
  case stop =>
    intro D pre x rest Wx hD hall hIx hdef
    exact hIx.elim
end Go.Proofs.Ytidengcihakijaa
