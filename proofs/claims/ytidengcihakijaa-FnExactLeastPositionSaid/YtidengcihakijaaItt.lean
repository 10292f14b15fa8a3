/- The function that hands out a player's triangles: its promise. -/
import Derived.Test.YtidengcihakijaaItd
import Derived.Test.YtidengcihakijaaMsk
namespace Go.Proofs.Ytidengcihakijaa
set_option linter.unusedVariables false
set_option linter.unusedSimpArgs false
open Go Go.RowKit Go.Shelf
attribute [local go_sem] Oper.semAt_some
/-- A position's list as the program holds it. -/
def psZ (N : Nat) (zs : List Int) : Array Value := psC (N : Int) (tkn 0 zs zs.length) (tkn 1 zs zs.length)
def encT (x : Nat) : Array Value := #[.int .u16 (x : Int)]
/-- The boxes of the position and of the player. -/
def Cap7 (zs : List Int) (N : Nat) (P : Int) (Bp Bq : Nat) (W : World) : Prop := Blk W Bp (psZ N zs) 44 ∧ Blk W Bq #[.int .i64 P] 2
theorem Cap7.same {zs : List Int} {N : Nat} {P : Int} {Bp Bq : Nat} {W W' : World} (h : Cap7 zs N P Bp Bq W) (e : ∀ b, b ∈ [Bp, Bq] → W'.heap[b]? = W.heap[b]?) : Cap7 zs N P Bp Bq W' :=
  ⟨(e Bp (by simp)).trans h.1, (e Bq (by simp)).trans h.2⟩
/-- What holds at each edge and at each triangle. -/
def RelTt (zs : List Int) (N : Nat) (P : Int) (Bp Bq Y : Nat) (J : List Nat → World → Prop) (W : World) (l : Nat) (L : List Nat) (wr : World) : Prop :=
  J L wr ∧ Cap7 zs N P Bp Bq wr ∧ Blk wr Y #[.func (.yield l) #[] #[]] 96 ∧ W.heap.size ≤ wr.heap.size
theorem RelTt.below {zs : List Int} {N : Nat} {P : Int} {Bp Bq Y : Nat} {J : List Nat → World → Prop} {W : World} {l : Nat} {L : List Nat} {wr w2 : World} (h : RelTt zs N P Bp Bq Y J W l L wr) (hJ : Stab W.heap.size J)
    (hin : ∀ b, b ∈ [Bp, Bq] → b < W.heap.size) {C : Nat} (hC : W.heap.size ≤ C) (hY : Y < C) (hb : Below C wr w2) : RelTt zs N P Bp Bq Y J W l L w2 :=
  ⟨hJ _ _ _ h.1 (hb.mono hC), h.2.1.same (fun b hb2 => hb.block b (Nat.lt_of_lt_of_le (hin b hb2) hC)), h.2.2.1.below hb hY, Nat.le_trans h.2.2.2 hb.size⟩
theorem blk_put {A : World} {b l : Nat} {C : Array Value} {t : TypeId} {o : Obj} (h : Blk A b C t) (hl : A.heap[l]? = some o) (ho : o.isCells = false) (o' : Obj) : Blk (A.putObj l o') b C t :=
  (World.putObj_heap_other (fun e => by subst e; rw [show A.heap[b]? = _ from h] at hl; cases hl; cases ho)).trans h
theorem triI_more (P : Int) (zs : List Int) (k j i : Nat) : ∀ d, ∃ r, triI P zs k j (i + d) = triI P zs k j i ++ r
  | 0 => ⟨[], by simp⟩
  | d + 1 => by
    obtain ⟨r, hr⟩ := triI_more P zs k j i d
    exact ⟨r ++ (if has3 P zs k j (i + d) then [mk3 k j (i + d)] else []), by rw [← Nat.add_assoc, triI, hr, List.append_assoc]⟩
/-- A triangle among all. -/
theorem tri_at {P : Int} {zs : List Int} {N : Nat} {pre rest : List (Nat × Nat × Nat)} {q l h i : Nat} (hall : eseq N = pre ++ (q, l, h) :: rest) (hi : i < l) (h3 : has3 P zs h l i = true) :
    ∃ r, triK P zs N = (triE P zs pre ++ triI P zs h l i) ++ mk3 h l i :: r := by
  obtain ⟨r, hr⟩ := triI_more P zs h l (i + 1) (l - (i + 1))
  rw [show i + 1 + (l - (i + 1)) = l by omega, triI, if_pos h3] at hr
  refine ⟨r ++ triE P zs rest, ?_⟩
  rw [← triE_all, hall, triE_app, triE]
  show triE P zs pre ++ (triI P zs h l l ++ _) = _
  rw [hr]; simp
set_option maxRecDepth 100000 in
set_option maxHeartbeats 4000000 in
theorem iter74_0 (m : Nat) (zs : List Int) (N : Nat) (hN1 : 1 ≤ N) (hN : N ≤ 5) (hlen : zs.length = eN N) (Bp Bq : Nat) (w : World) (hC : Cap7 zs N 0 Bp Bq w) :
    Gives (m + 1) 67 #[.pointer (some ⟨Bp, 0, none⟩), .pointer (some ⟨Bq, 0, none⟩)] encT [Bp, Bq] (triK 0 zs N) w := by
  intro l J Jx W hsz hbs hJ hJx hY h0
  have hmo : Try.prog.follows .mixedOrders = true := rfl
  have hC0 := hC.same hbs
  have hl10 : zs.length ≤ 10 := by rw [hlen]; exact Nat.le_trans (eN_mono hN) (by decide)
  have HL := hidd hlen
  have hin : ∀ b, b ∈ [Bp, Bq] → b < W.heap.size := fun b hb => by
    simp only [List.mem_cons, List.not_mem_nil, or_false] at hb
    rcases hb with rfl | rfl
    · exact hC0.1.lt
    · exact hC0.2.lt
  have HIN := hidd hin
  have HY := hidd hY
  have hbW : Below W.heap.size W (W.alloc (.cells #[.func (.yield l) #[] #[]] 96)) := (Below.refl _ _).alloc (Nat.le_refl _) _
  have hR0 : RelTt zs N 0 Bp Bq W.heap.size J W l [] (W.alloc (.cells #[.func (.yield l) #[] #[]] 96)) :=
    ⟨hJ _ _ _ h0 hbW, hC0.same (fun b hb2 => hbW.block b (hin b hb2)), Blk.new _ _ _ _ rfl, hbW.size⟩
  have HR0 := hidd hR0
  have cP := hR0.2.1.1.cell (j := 0) (show _ = some (Value.int .i64 (N : Int)) from rfl)
  clear hC hC0 hbs hin hY hR0 h0 hlen hbW
  refine callsIn_of_wp_marks Try.func67 rfl trivial ?_ rfl
  simp only [Try.ntmps67, List.size_toArray, List.length_cons, List.length_nil, Nat.reduceAdd, Nat.reduceSub, Array.replicate_succ, Array.replicate_zero, List.push_toArray, List.append_toArray, List.nil_append, List.cons_append]
  gi_wp2_with fail
  refine ⟨trivial, (callsIn_wide.2 (edges66 _ _)).mono ?_⟩
  rintro e w1 ⟨rfl, hw1⟩
  have hb1 : Below (W.heap.size + 1) (W.alloc (.cells #[.func (.yield l) #[] #[]] 96)) w1 := by rw [← hw1]; exact (Below.refl _ _).alloc (by simp) _
  have hs1 : w1.heap.size = W.heap.size + 1 + 1 := by rw [← hw1]; simp
  have hn1 : Blk w1 (W.heap.size + 1) #[.int .i64 (N : Int)] 2 := by rw [← hw1]; exact Blk.new _ _ _ _ (by simp)
  have hz : (W.alloc (Obj.cells #[Value.func (Fn.yield l) #[] #[]] 96)).heap.size = W.heap.size + 1 := by simp
  rw [hz]
  have HR1 := hidd (HR0.out.below hJ HIN.out (by omega) (Nat.lt_succ_self _) hb1)
  have HIT := hidd (iter73 m (W.heap.size + 1) N hN1 (by omega) w1 hn1)
  have HS1 := hidd hs1
  have HST := hidd (show Stab w1.heap.size (fun pre Wx => RelTt zs N 0 Bp Bq W.heap.size J W l (triE 0 zs pre) Wx) from
    fun pre A A' h hb => h.below hJ HIN.out (by omega) (by omega) hb)
  have HSX := hidd (show StabX w1.heap.size (fun (pre : List (Nat × Nat × Nat)) Wx => ∃ L x r, triK 0 zs N = L ++ x :: r ∧ Jx (L ++ [x]) Wx) from
    fun pre A A' ⟨L, x, r, h1, h2⟩ hb hcc => ⟨L, x, r, h1, hJx _ _ _ h2 (hb.mono (by omega)) hcc⟩)
  clear hw1 hb1 hs1 hn1 hz cP
  gi_wp2_with fail
  refine range_gives rfl (enters_of Try.func60 (by kernel_rfl) rfl) HIT.out (fun b hb => by simp only [List.mem_cons, List.not_mem_nil, or_false] at hb; have := HS1.out; omega) (fun _ => rfl)
    (fun pre Wx => RelTt zs N 0 Bp Bq W.heap.size J W l (triE 0 zs pre) Wx) (fun (pre : List (Nat × Nat × Nat)) Wx => ∃ L x r, triK 0 zs N = L ++ x :: r ∧ Jx (L ++ [x]) Wx) HST.out HSX.out HR1.out
    (fun x a' Wx => ∃ b, a' = { tmps := #[.func (.yield l) #[] #[], .pointer (some ⟨Bp, 0, none⟩), .pointer (some ⟨Bq, 0, none⟩), .pointer (some ⟨W.heap.size, 0, none⟩), .int .i64 (x.1 : Int), .pointer (some ⟨b, 0, none⟩), undef, undef, .pointer (some ⟨Bp, 0, none⟩), .int .i64 (N : Int), .func (.func 60) #[] #[.pointer (some ⟨W.heap.size + 1, 0, none⟩)], .int .i64 (x.1 : Int), .agg #[.int .i64 (x.2.1 : Int), .int .i64 (x.2.2 : Int)], undef, undef, undef, undef, undef, undef, undef, undef, undef, undef, undef, undef, undef, undef, undef, undef, undef, undef, undef, undef, undef, undef, undef, undef, undef, undef, undef, undef, undef, undef, undef, undef, undef], defers := [] } ∧ Blk Wx b #[.int .i64 (x.2.1 : Int), .int .i64 (x.2.2 : Int)] 70 ∧ W.heap.size ≤ b)
    (fun x a' A l' o o' h hl' ho => by obtain ⟨b, h1, h2, h3⟩ := h; exact ⟨b, h1, blk_put h2 hl' ho o', h3⟩) ?assign ?body ?done ?stop
  case assign =>
    intro l' pre x rest Wx Kx' hall hI hs hK
    have HK := hidd hK
    clear hK hI
    dsimp only [encD]
    gi_wp2
    refine HK.out _ _ ((Below.refl _ _).alloc (Nat.le_refl _) _) ⟨Wx.heap.size, rfl, Blk.new _ _ _ _ rfl, by have := HS1.out; omega⟩
  case body =>
    rintro l' pre ⟨q, lo, hi⟩ rest a' Wx hall hs hI ⟨b, rfl, hblk, hWb⟩
    obtain ⟨hlh, hhN⟩ := eseq_bd (show (q, lo, hi) ∈ eseq N by rw [hall]; simp)
    have hq := eseq_mem (show (q, lo, hi) ∈ eseq N by rw [hall]; simp)
    dsimp only at hq hlh hhN hblk
    have hall' := hall
    have HALL := hidd hall'
    have m1 := eN_mono (show hi + 1 ≤ N by omega)
    have m2 := eN_mono (show lo + 1 ≤ hi by omega)
    rw [eN] at m1 m2
    have hlz := HL.out
    have hq10 : q < 10 := by omega
    have HQ := hidd hq
    have HR := hidd (show RelTt zs N 0 Bp Bq W.heap.size J W l (triE 0 zs pre ++ triI 0 zs hi lo 0) Wx ∧ Blk Wx b #[.int .i64 (lo : Int), .int .i64 (hi : Int)] 70 ∧ Kx [W.heap.size + 1] w1.heap.size Wx Wx from
      ⟨by rw [triI, List.append_nil]; exact hI, hblk, Kx.refl _ _ _⟩)
    have c0 := hblk.cell (j := 0) (show _ = some (Value.int .i64 (lo : Int)) from rfl)
    have HSS := hidd hs
    clear hall hall' hI hblk hq hs hlz
    gi_wp2_with fail
    gi_loopw [15] (fun ii wr => ∃ i : Nat, i ≤ lo ∧ ii = .int .i64 i ∧ Hid (RelTt zs N 0 Bp Bq W.heap.size J W l (triE 0 zs pre ++ triI 0 zs hi lo i) wr ∧ Blk wr b #[.int .i64 (lo : Int), .int .i64 (hi : Int)] 70 ∧ Kx [W.heap.size + 1] w1.heap.size Wx wr)) (fun ii _ => lo - (intOf ii).toNat)
    case atStart => exact ⟨0, by omega, rfl, HR⟩
    case round =>
      obtain ⟨i, hi0, rfl, HK⟩ := hrel
      clear c0
      by_cases hlt : i < lo
      · have c0 := HK.out.2.1.cell (j := 0) (show _ = some (Value.int .i64 (lo : Int)) from rfl)
        have c1 := HK.out.2.1.cell (j := 1) (show _ = some (Value.int .i64 (hi : Int)) from rfl)
        have cq := HK.out.1.2.1.2.cell (j := 0) (show _ = some (Value.int .i64 0) from rfl)
        have cT := HK.out.1.2.1.1.cell (j := 1) (show _ = some (Value.int .u16 (tkn 0 zs zs.length : Nat)) from rfl)
        have cY := HK.out.1.2.2.1.cell (j := 0) (show _ = some (Value.func (.yield l) #[] #[]) from rfl)
        obtain ⟨A, hA⟩ : ∃ A, A = eN lo + i := ⟨_, rfl⟩
        obtain ⟨B, hB⟩ : ∃ B, B = eN hi + i := ⟨_, rfl⟩
        have HA54 := hidd (fun w => (show Calls Try.prog 42 #[.int .i64 (i : Int), .int .i64 (lo : Int)] w fun e w' => e = .returned (.int .i64 (A : Int)) ∧ w = w' by
          have := edge54 (i : Int) (lo : Int) w (by omega) (by omega) (by omega) (by omega) (by omega); rwa [eix_eN hlt, ← hA] at this))
        have HB54 := hidd (fun w => (show Calls Try.prog 42 #[.int .i64 (i : Int), .int .i64 (hi : Int)] w fun e w' => e = .returned (.int .i64 (B : Int)) ∧ w = w' by
          have := edge54 (i : Int) (hi : Int) w (by omega) (by omega) (by omega) (by omega) (by omega); rwa [eix_eN (show i < hi by omega), ← hB] at this))
        have hlz := HL.out
        have hA10 : A < 10 := by omega
        have hB10 : B < 10 := by omega
        have hqq := HQ.out
        have hmk : mk3 hi lo i = 2 ^ A ||| 2 ^ B ||| 2 ^ q := by rw [hA, hB, hqq]; rfl
        have hor := u16_mk hA10 hB10 hq10
        rw [← hmk] at hor
        have hfit := fit_mk (P := 0) (zs := zs) (k := hi) (j := lo) (i := i) hl10 (by omega) (by omega) (by omega)
        obtain ⟨M, hM⟩ : ∃ M, M = mk3 hi lo i := ⟨_, rfl⟩
        obtain ⟨T, hT⟩ : ∃ T, T = tkn 0 zs zs.length := ⟨_, rfl⟩
        rw [← hM] at hor hfit
        rw [← hT] at cT hfit
        have HM := hidd hM
        have hi0' : (0 : Int) ≤ (i : Int) := by omega
        obtain ⟨h3, hh3⟩ : ∃ h3, has3 0 zs hi lo i = h3 := ⟨_, rfl⟩
        rw [hh3] at hfit
        have H3 := hidd hh3
        clear hA hB hlz hqq hmk hM hT hh3
        gi_wp2_with fail
        refine wpIn_region_tail_lit (lets_round l' _) 14 (fun w' => w' = wr.drew) (by decide) (by kernel_rfl) rfl (by kernel_rfl) (by kernel_rfl) (by kernel_rfl) (by kernel_rfl) (by kernel_rfl) ?_
        simp only [List.take_succ_cons, List.take_zero, List.drop_succ_cons, List.drop_zero, List.map_cons, List.map_nil, List.cons_append, List.nil_append, idle]
        refine qs rfl (fun KQ hKQ => ?_)
        apply Exists.intro
        refine ⟨fun w' hw' => ?_, ?_⟩
        · go_simp; exact rfl
        go_simp
        refine hKQ _ ?_
        clear hKQ KQ
        refine qs rfl (fun KQ hKQ => ?_)
        apply Exists.intro
        refine ⟨fun w' hw' => ?_, ?_⟩
        · go_simp; exact rfl
        go_simp
        refine hKQ _ ?_
        clear hKQ KQ
        refine qs rfl (fun KQ hKQ => ?_)
        apply Exists.intro
        refine ⟨fun w' hw' => ?_, ?_⟩
        · go_simp; exact rfl
        go_simp
        refine hKQ _ ?_
        clear hKQ KQ
        refine qs rfl (fun KQ hKQ => ?_)
        apply Exists.intro
        refine ⟨fun w' hw' => ?_, ?_⟩
        · go_simp; exact rfl
        go_simp
        refine hKQ _ ?_
        clear hKQ KQ
        refine qs rfl (fun KQ hKQ => ?_)
        apply Exists.intro
        refine ⟨fun w' hw' => ?_, ?_⟩
        · subst hw'; go_simp; exact rfl
        go_simp
        refine hKQ _ ?_
        clear hKQ KQ
        refine qs rfl (fun KQ hKQ => ?_)
        apply Exists.intro
        refine ⟨fun w' hw' => ?_, ?_⟩
        · subst hw'; go_simp; exact (HA54.out _).mono fun _ _ h => ⟨h.1, h.2.symm⟩
        go_simp
        refine hKQ _ ?_
        clear hKQ KQ
        refine qs rfl (fun KQ hKQ => ?_)
        apply Exists.intro
        refine ⟨fun w' hw' => ?_, ?_⟩
        · go_simp; exact rfl
        go_simp
        refine hKQ _ ?_
        clear hKQ KQ
        refine qs rfl (fun KQ hKQ => ?_)
        apply Exists.intro
        refine ⟨fun w' hw' => ?_, ?_⟩
        · go_simp; exact rfl
        go_simp
        refine hKQ _ ?_
        clear hKQ KQ
        refine qs rfl (fun KQ hKQ => ?_)
        apply Exists.intro
        refine ⟨fun w' hw' => ?_, ?_⟩
        · go_simp; exact rfl
        go_simp
        refine hKQ _ ?_
        clear hKQ KQ
        refine qs rfl (fun KQ hKQ => ?_)
        apply Exists.intro
        refine ⟨fun w' hw' => ?_, ?_⟩
        · go_simp; exact rfl
        go_simp
        refine hKQ _ ?_
        clear hKQ KQ
        refine qs rfl (fun KQ hKQ => ?_)
        apply Exists.intro
        refine ⟨fun w' hw' => ?_, ?_⟩
        · subst hw'; go_simp; exact rfl
        go_simp
        refine hKQ _ ?_
        clear hKQ KQ
        refine qs rfl (fun KQ hKQ => ?_)
        apply Exists.intro
        refine ⟨fun w' hw' => ?_, ?_⟩
        · subst hw'; go_simp; exact (HB54.out _).mono fun _ _ h => ⟨h.1, h.2.symm⟩
        go_simp
        refine hKQ _ ?_
        clear hKQ KQ
        refine qs rfl (fun KQ hKQ => ?_)
        apply Exists.intro
        refine ⟨fun w' hw' => ?_, ?_⟩
        · go_simp; exact rfl
        go_simp
        refine hKQ _ ?_
        clear hKQ KQ
        refine qs rfl (fun KQ hKQ => ?_)
        apply Exists.intro
        refine ⟨fun w' hw' => ?_, ?_⟩
        · go_simp; exact rfl
        go_simp
        refine hKQ _ ?_
        clear hKQ KQ
        refine qs rfl (fun KQ hKQ => ?_)
        apply Exists.intro
        refine ⟨fun w' hw' => ?_, ?_⟩
        · go_simp; exact rfl
        go_simp
        refine hKQ _ ?_
        clear hKQ KQ
        refine wpQuiet_nil ?_
        intro w' hw'
        subst hw'
        cases h3 with
        | false =>
          have K := hidd (show RelTt zs N 0 Bp Bq W.heap.size J W l (triE 0 zs pre ++ triI 0 zs hi lo (i + 1)) wr.drew ∧ Blk wr.drew b #[.int .i64 (lo : Int), .int .i64 (hi : Int)] 70 ∧ Kx [W.heap.size + 1] w1.heap.size Wx wr.drew from
            ⟨by rw [triI, H3.out]; simp only [Bool.false_eq_true, if_false, List.append_nil]; exact HK.out.1.below hJ HIN.out HK.out.1.2.2.2 HK.out.1.2.2.1.lt (Below.refl _ _).drew, HK.out.2.1.drew, HK.out.2.2⟩)
          gi_wp2_with fail
          refine ⟨(fun f h => by cases h), ?_⟩
          gi_wp2_with fail
          go_roundw
          case rel => exact ⟨i + 1, by omega, by go_num, K⟩
          case measure => simp [intOf]; omega
        | true =>
          obtain ⟨r, hr⟩ := tri_at HALL.out hlt H3.out
          have hT2 : triI 0 zs hi lo (i + 1) = triI 0 zs hi lo i ++ [mk3 hi lo i] := by rw [triI, H3.out]; rfl
          rw [← HM.out] at hr hT2
          have HK2 := hidd (HK.out.1.below hJ HIN.out HK.out.1.2.2.2 HK.out.1.2.2.1.lt (Below.refl wr.heap.size wr).drew)
          obtain ⟨fn, tmps, assign, bdy, hyy, hRn⟩ := HY.out _ M r wr.drew hr HK2.out.1
          have HRR := hidd hRn
          have HA := hidd hr
          have HT2 := hidd hT2
          have HBB := hidd HK.out.2.1.drew
          have HKX := hidd HK.out.2.2
          clear hRn hr hT2 HK
          dsimp only [encT] at hyy
          gi_wp2_with fail
          refine ⟨(fun h => by cases h), (round_any HRR.out).mono ?_⟩
          rintro e W3 ⟨hk3, ⟨rfl, hJ3⟩ | ⟨rfl, hx3⟩⟩
          · have KX : Kx [W.heap.size + 1] w1.heap.size Wx W3 := (show Kx [W.heap.size + 1] w1.heap.size Wx wr.drew from HKX.out).trans ⟨hk3.1, fun k hk hb => hk3.2 k hk (by
              have := HS1.out
              simp only [List.mem_cons, List.not_mem_nil, or_false] at hb
              exact .inl (by omega))⟩
            have K := hidd (show RelTt zs N 0 Bp Bq W.heap.size J W l (triE 0 zs pre ++ triI 0 zs hi lo (i + 1)) W3 ∧ Blk W3 b #[.int .i64 (lo : Int), .int .i64 (hi : Int)] 70 ∧ Kx [W.heap.size + 1] w1.heap.size Wx W3 from
              ⟨⟨by rw [HT2.out, ← List.append_assoc]; exact hJ3, HK2.out.2.1.same (fun b hb => hk3.2 b (Nat.lt_of_lt_of_le (HIN.out b hb) HK2.out.2.2.2) (.inr hb)),
                (hk3.2 _ HK2.out.2.2.1.lt (.inl (Nat.le_refl _))).trans HK2.out.2.2.1, Nat.le_trans HK2.out.2.2.2 hk3.1⟩, (hk3.2 _ HBB.out.lt (.inl hWb)).trans HBB.out, KX⟩)
            clear hk3 hJ3 KX
            gi_wp2_with fail
            go_roundw
            case rel => exact ⟨i + 1, by omega, by go_num, K⟩
            case measure => simp [intOf]; omega
          · have KX := hidd ((show Kx [W.heap.size + 1] w1.heap.size Wx wr.drew from HKX.out).trans (show Kx [W.heap.size + 1] w1.heap.size wr.drew W3 from ⟨hk3.1, fun k hk hb => hk3.2 k hk (by
              have := HS1.out
              simp only [List.mem_cons, List.not_mem_nil, or_false] at hb
              exact .inl (by omega))⟩))
            have K := hidd (show ∃ L x r, triK 0 zs N = L ++ x :: r ∧ Jx (L ++ [x]) W3 from ⟨_, M, r, HA.out, hx3⟩)
            clear hk3 hx3
            gi_wp2_with fail
            exact ⟨KX.out, K.out⟩
      · have hie : i = lo := by omega
        subst hie
        have K := hidd (show RelTt zs N 0 Bp Bq W.heap.size J W l (triE 0 zs (pre ++ [(q, i, hi)])) wr by
          rw [triE_app, triE, triE, List.append_nil]; exact HK.out.1)
        have c0 := HK.out.2.1.cell (j := 0) (show _ = some (Value.int .i64 (i : Int)) from rfl)
        gi_wp2_with fail
        exact ⟨HK.out.2.2, K.out⟩
  case done =>
    intro D Wx hD hI hdef
    have hM := hidd (show Mks w1.heap.size [D] Wx from (Mks.nil _ _).cons hD (by simp) hdef)
    have HJ := hidd hI.1
    clear hI hdef
    gi_wp2
    refine leave_marks [D] Wx hM.out (fun W' hb _ => ⟨results_none rfl _ _ _, ⟨_, rfl⟩, .inl ?_⟩)
    have h := hJ _ _ _ HJ.out (hb.mono (show W.heap.size ≤ w1.heap.size by have := HS1.out; omega))
    rw [triE_all] at h; exact h
  case stop =>
    intro D pre x rest Wx hD hall hIx hdef
    have hM := hidd (show Mks w1.heap.size [D] Wx from (Mks.nil _ _).cons hD (by simp) hdef)
    obtain ⟨L, y, r, hL, hx⟩ := hIx
    have HX := hidd hx
    have HA := hidd hL
    clear hx hL hdef
    gi_wp2
    exact leave_marks [D] Wx hM.out (fun W' hb hcc => ⟨results_none rfl _ _ _, ⟨_, rfl⟩, .inr ⟨L, y, r, HA.out, hJx _ _ _ HX.out (hb.mono (show W.heap.size ≤ w1.heap.size by have := HS1.out; omega)) hcc⟩⟩)
set_option maxRecDepth 100000 in
set_option maxHeartbeats 4000000 in
theorem iter74_1 (m : Nat) (zs : List Int) (N : Nat) (hN1 : 1 ≤ N) (hN : N ≤ 5) (hlen : zs.length = eN N) (Bp Bq : Nat) (w : World) (hC : Cap7 zs N 1 Bp Bq w) :
    Gives (m + 1) 67 #[.pointer (some ⟨Bp, 0, none⟩), .pointer (some ⟨Bq, 0, none⟩)] encT [Bp, Bq] (triK 1 zs N) w := by
  intro l J Jx W hsz hbs hJ hJx hY h0
  have hmo : Try.prog.follows .mixedOrders = true := rfl
  have hC0 := hC.same hbs
  have hl10 : zs.length ≤ 10 := by rw [hlen]; exact Nat.le_trans (eN_mono hN) (by decide)
  have HL := hidd hlen
  have hin : ∀ b, b ∈ [Bp, Bq] → b < W.heap.size := fun b hb => by
    simp only [List.mem_cons, List.not_mem_nil, or_false] at hb
    rcases hb with rfl | rfl
    · exact hC0.1.lt
    · exact hC0.2.lt
  have HIN := hidd hin
  have HY := hidd hY
  have hbW : Below W.heap.size W (W.alloc (.cells #[.func (.yield l) #[] #[]] 96)) := (Below.refl _ _).alloc (Nat.le_refl _) _
  have hR0 : RelTt zs N 1 Bp Bq W.heap.size J W l [] (W.alloc (.cells #[.func (.yield l) #[] #[]] 96)) :=
    ⟨hJ _ _ _ h0 hbW, hC0.same (fun b hb2 => hbW.block b (hin b hb2)), Blk.new _ _ _ _ rfl, hbW.size⟩
  have HR0 := hidd hR0
  have cP := hR0.2.1.1.cell (j := 0) (show _ = some (Value.int .i64 (N : Int)) from rfl)
  clear hC hC0 hbs hin hY hR0 h0 hlen hbW
  refine callsIn_of_wp_marks Try.func67 rfl trivial ?_ rfl
  simp only [Try.ntmps67, List.size_toArray, List.length_cons, List.length_nil, Nat.reduceAdd, Nat.reduceSub, Array.replicate_succ, Array.replicate_zero, List.push_toArray, List.append_toArray, List.nil_append, List.cons_append]
  gi_wp2_with fail
  refine ⟨trivial, (callsIn_wide.2 (edges66 _ _)).mono ?_⟩
  rintro e w1 ⟨rfl, hw1⟩
  have hb1 : Below (W.heap.size + 1) (W.alloc (.cells #[.func (.yield l) #[] #[]] 96)) w1 := by rw [← hw1]; exact (Below.refl _ _).alloc (by simp) _
  have hs1 : w1.heap.size = W.heap.size + 1 + 1 := by rw [← hw1]; simp
  have hn1 : Blk w1 (W.heap.size + 1) #[.int .i64 (N : Int)] 2 := by rw [← hw1]; exact Blk.new _ _ _ _ (by simp)
  have hz : (W.alloc (Obj.cells #[Value.func (Fn.yield l) #[] #[]] 96)).heap.size = W.heap.size + 1 := by simp
  rw [hz]
  have HR1 := hidd (HR0.out.below hJ HIN.out (by omega) (Nat.lt_succ_self _) hb1)
  have HIT := hidd (iter73 m (W.heap.size + 1) N hN1 (by omega) w1 hn1)
  have HS1 := hidd hs1
  have HST := hidd (show Stab w1.heap.size (fun pre Wx => RelTt zs N 1 Bp Bq W.heap.size J W l (triE 1 zs pre) Wx) from
    fun pre A A' h hb => h.below hJ HIN.out (by omega) (by omega) hb)
  have HSX := hidd (show StabX w1.heap.size (fun (pre : List (Nat × Nat × Nat)) Wx => ∃ L x r, triK 1 zs N = L ++ x :: r ∧ Jx (L ++ [x]) Wx) from
    fun pre A A' ⟨L, x, r, h1, h2⟩ hb hcc => ⟨L, x, r, h1, hJx _ _ _ h2 (hb.mono (by omega)) hcc⟩)
  clear hw1 hb1 hs1 hn1 hz cP
  gi_wp2_with fail
  refine range_gives rfl (enters_of Try.func60 (by kernel_rfl) rfl) HIT.out (fun b hb => by simp only [List.mem_cons, List.not_mem_nil, or_false] at hb; have := HS1.out; omega) (fun _ => rfl)
    (fun pre Wx => RelTt zs N 1 Bp Bq W.heap.size J W l (triE 1 zs pre) Wx) (fun (pre : List (Nat × Nat × Nat)) Wx => ∃ L x r, triK 1 zs N = L ++ x :: r ∧ Jx (L ++ [x]) Wx) HST.out HSX.out HR1.out
    (fun x a' Wx => ∃ b, a' = { tmps := #[.func (.yield l) #[] #[], .pointer (some ⟨Bp, 0, none⟩), .pointer (some ⟨Bq, 0, none⟩), .pointer (some ⟨W.heap.size, 0, none⟩), .int .i64 (x.1 : Int), .pointer (some ⟨b, 0, none⟩), undef, undef, .pointer (some ⟨Bp, 0, none⟩), .int .i64 (N : Int), .func (.func 60) #[] #[.pointer (some ⟨W.heap.size + 1, 0, none⟩)], .int .i64 (x.1 : Int), .agg #[.int .i64 (x.2.1 : Int), .int .i64 (x.2.2 : Int)], undef, undef, undef, undef, undef, undef, undef, undef, undef, undef, undef, undef, undef, undef, undef, undef, undef, undef, undef, undef, undef, undef, undef, undef, undef, undef, undef, undef, undef, undef, undef, undef, undef], defers := [] } ∧ Blk Wx b #[.int .i64 (x.2.1 : Int), .int .i64 (x.2.2 : Int)] 70 ∧ W.heap.size ≤ b)
    (fun x a' A l' o o' h hl' ho => by obtain ⟨b, h1, h2, h3⟩ := h; exact ⟨b, h1, blk_put h2 hl' ho o', h3⟩) ?assign ?body ?done ?stop
  case assign =>
    intro l' pre x rest Wx Kx' hall hI hs hK
    have HK := hidd hK
    clear hK hI
    dsimp only [encD]
    gi_wp2
    refine HK.out _ _ ((Below.refl _ _).alloc (Nat.le_refl _) _) ⟨Wx.heap.size, rfl, Blk.new _ _ _ _ rfl, by have := HS1.out; omega⟩
  case body =>
    rintro l' pre ⟨q, lo, hi⟩ rest a' Wx hall hs hI ⟨b, rfl, hblk, hWb⟩
    obtain ⟨hlh, hhN⟩ := eseq_bd (show (q, lo, hi) ∈ eseq N by rw [hall]; simp)
    have hq := eseq_mem (show (q, lo, hi) ∈ eseq N by rw [hall]; simp)
    dsimp only at hq hlh hhN hblk
    have hall' := hall
    have HALL := hidd hall'
    have m1 := eN_mono (show hi + 1 ≤ N by omega)
    have m2 := eN_mono (show lo + 1 ≤ hi by omega)
    rw [eN] at m1 m2
    have hlz := HL.out
    have hq10 : q < 10 := by omega
    have HQ := hidd hq
    have HR := hidd (show RelTt zs N 1 Bp Bq W.heap.size J W l (triE 1 zs pre ++ triI 1 zs hi lo 0) Wx ∧ Blk Wx b #[.int .i64 (lo : Int), .int .i64 (hi : Int)] 70 ∧ Kx [W.heap.size + 1] w1.heap.size Wx Wx from
      ⟨by rw [triI, List.append_nil]; exact hI, hblk, Kx.refl _ _ _⟩)
    have c0 := hblk.cell (j := 0) (show _ = some (Value.int .i64 (lo : Int)) from rfl)
    have HSS := hidd hs
    clear hall hall' hI hblk hq hs hlz
    gi_wp2_with fail
    gi_loopw [15] (fun ii wr => ∃ i : Nat, i ≤ lo ∧ ii = .int .i64 i ∧ Hid (RelTt zs N 1 Bp Bq W.heap.size J W l (triE 1 zs pre ++ triI 1 zs hi lo i) wr ∧ Blk wr b #[.int .i64 (lo : Int), .int .i64 (hi : Int)] 70 ∧ Kx [W.heap.size + 1] w1.heap.size Wx wr)) (fun ii _ => lo - (intOf ii).toNat)
    case atStart => exact ⟨0, by omega, rfl, HR⟩
    case round =>
      obtain ⟨i, hi0, rfl, HK⟩ := hrel
      clear c0
      by_cases hlt : i < lo
      · have c0 := HK.out.2.1.cell (j := 0) (show _ = some (Value.int .i64 (lo : Int)) from rfl)
        have c1 := HK.out.2.1.cell (j := 1) (show _ = some (Value.int .i64 (hi : Int)) from rfl)
        have cq := HK.out.1.2.1.2.cell (j := 0) (show _ = some (Value.int .i64 1) from rfl)
        have cT := HK.out.1.2.1.1.cell (j := 2) (show _ = some (Value.int .u16 (tkn 1 zs zs.length : Nat)) from rfl)
        have cY := HK.out.1.2.2.1.cell (j := 0) (show _ = some (Value.func (.yield l) #[] #[]) from rfl)
        obtain ⟨A, hA⟩ : ∃ A, A = eN lo + i := ⟨_, rfl⟩
        obtain ⟨B, hB⟩ : ∃ B, B = eN hi + i := ⟨_, rfl⟩
        have HA54 := hidd (fun w => (show Calls Try.prog 42 #[.int .i64 (i : Int), .int .i64 (lo : Int)] w fun e w' => e = .returned (.int .i64 (A : Int)) ∧ w = w' by
          have := edge54 (i : Int) (lo : Int) w (by omega) (by omega) (by omega) (by omega) (by omega); rwa [eix_eN hlt, ← hA] at this))
        have HB54 := hidd (fun w => (show Calls Try.prog 42 #[.int .i64 (i : Int), .int .i64 (hi : Int)] w fun e w' => e = .returned (.int .i64 (B : Int)) ∧ w = w' by
          have := edge54 (i : Int) (hi : Int) w (by omega) (by omega) (by omega) (by omega) (by omega); rwa [eix_eN (show i < hi by omega), ← hB] at this))
        have hlz := HL.out
        have hA10 : A < 10 := by omega
        have hB10 : B < 10 := by omega
        have hqq := HQ.out
        have hmk : mk3 hi lo i = 2 ^ A ||| 2 ^ B ||| 2 ^ q := by rw [hA, hB, hqq]; rfl
        have hor := u16_mk hA10 hB10 hq10
        rw [← hmk] at hor
        have hfit := fit_mk (P := 1) (zs := zs) (k := hi) (j := lo) (i := i) hl10 (by omega) (by omega) (by omega)
        obtain ⟨M, hM⟩ : ∃ M, M = mk3 hi lo i := ⟨_, rfl⟩
        obtain ⟨T, hT⟩ : ∃ T, T = tkn 1 zs zs.length := ⟨_, rfl⟩
        rw [← hM] at hor hfit
        rw [← hT] at cT hfit
        have HM := hidd hM
        have hi0' : (0 : Int) ≤ (i : Int) := by omega
        obtain ⟨h3, hh3⟩ : ∃ h3, has3 1 zs hi lo i = h3 := ⟨_, rfl⟩
        rw [hh3] at hfit
        have H3 := hidd hh3
        clear hA hB hlz hqq hmk hM hT hh3
        gi_wp2_with fail
        refine wpIn_region_tail_lit (lets_round l' _) 14 (fun w' => w' = wr.drew) (by decide) (by kernel_rfl) rfl (by kernel_rfl) (by kernel_rfl) (by kernel_rfl) (by kernel_rfl) (by kernel_rfl) ?_
        simp only [List.take_succ_cons, List.take_zero, List.drop_succ_cons, List.drop_zero, List.map_cons, List.map_nil, List.cons_append, List.nil_append, idle]
        refine qs rfl (fun KQ hKQ => ?_)
        apply Exists.intro
        refine ⟨fun w' hw' => ?_, ?_⟩
        · go_simp; exact rfl
        go_simp
        refine hKQ _ ?_
        clear hKQ KQ
        refine qs rfl (fun KQ hKQ => ?_)
        apply Exists.intro
        refine ⟨fun w' hw' => ?_, ?_⟩
        · go_simp; exact rfl
        go_simp
        refine hKQ _ ?_
        clear hKQ KQ
        refine qs rfl (fun KQ hKQ => ?_)
        apply Exists.intro
        refine ⟨fun w' hw' => ?_, ?_⟩
        · go_simp; exact rfl
        go_simp
        refine hKQ _ ?_
        clear hKQ KQ
        refine qs rfl (fun KQ hKQ => ?_)
        apply Exists.intro
        refine ⟨fun w' hw' => ?_, ?_⟩
        · go_simp; exact rfl
        go_simp
        refine hKQ _ ?_
        clear hKQ KQ
        refine qs rfl (fun KQ hKQ => ?_)
        apply Exists.intro
        refine ⟨fun w' hw' => ?_, ?_⟩
        · subst hw'; go_simp; exact rfl
        go_simp
        refine hKQ _ ?_
        clear hKQ KQ
        refine qs rfl (fun KQ hKQ => ?_)
        apply Exists.intro
        refine ⟨fun w' hw' => ?_, ?_⟩
        · subst hw'; go_simp; exact (HA54.out _).mono fun _ _ h => ⟨h.1, h.2.symm⟩
        go_simp
        refine hKQ _ ?_
        clear hKQ KQ
        refine qs rfl (fun KQ hKQ => ?_)
        apply Exists.intro
        refine ⟨fun w' hw' => ?_, ?_⟩
        · go_simp; exact rfl
        go_simp
        refine hKQ _ ?_
        clear hKQ KQ
        refine qs rfl (fun KQ hKQ => ?_)
        apply Exists.intro
        refine ⟨fun w' hw' => ?_, ?_⟩
        · go_simp; exact rfl
        go_simp
        refine hKQ _ ?_
        clear hKQ KQ
        refine qs rfl (fun KQ hKQ => ?_)
        apply Exists.intro
        refine ⟨fun w' hw' => ?_, ?_⟩
        · go_simp; exact rfl
        go_simp
        refine hKQ _ ?_
        clear hKQ KQ
        refine qs rfl (fun KQ hKQ => ?_)
        apply Exists.intro
        refine ⟨fun w' hw' => ?_, ?_⟩
        · go_simp; exact rfl
        go_simp
        refine hKQ _ ?_
        clear hKQ KQ
        refine qs rfl (fun KQ hKQ => ?_)
        apply Exists.intro
        refine ⟨fun w' hw' => ?_, ?_⟩
        · subst hw'; go_simp; exact rfl
        go_simp
        refine hKQ _ ?_
        clear hKQ KQ
        refine qs rfl (fun KQ hKQ => ?_)
        apply Exists.intro
        refine ⟨fun w' hw' => ?_, ?_⟩
        · subst hw'; go_simp; exact (HB54.out _).mono fun _ _ h => ⟨h.1, h.2.symm⟩
        go_simp
        refine hKQ _ ?_
        clear hKQ KQ
        refine qs rfl (fun KQ hKQ => ?_)
        apply Exists.intro
        refine ⟨fun w' hw' => ?_, ?_⟩
        · go_simp; exact rfl
        go_simp
        refine hKQ _ ?_
        clear hKQ KQ
        refine qs rfl (fun KQ hKQ => ?_)
        apply Exists.intro
        refine ⟨fun w' hw' => ?_, ?_⟩
        · go_simp; exact rfl
        go_simp
        refine hKQ _ ?_
        clear hKQ KQ
        refine qs rfl (fun KQ hKQ => ?_)
        apply Exists.intro
        refine ⟨fun w' hw' => ?_, ?_⟩
        · go_simp; exact rfl
        go_simp
        refine hKQ _ ?_
        clear hKQ KQ
        refine wpQuiet_nil ?_
        intro w' hw'
        subst hw'
        cases h3 with
        | false =>
          have K := hidd (show RelTt zs N 1 Bp Bq W.heap.size J W l (triE 1 zs pre ++ triI 1 zs hi lo (i + 1)) wr.drew ∧ Blk wr.drew b #[.int .i64 (lo : Int), .int .i64 (hi : Int)] 70 ∧ Kx [W.heap.size + 1] w1.heap.size Wx wr.drew from
            ⟨by rw [triI, H3.out]; simp only [Bool.false_eq_true, if_false, List.append_nil]; exact HK.out.1.below hJ HIN.out HK.out.1.2.2.2 HK.out.1.2.2.1.lt (Below.refl _ _).drew, HK.out.2.1.drew, HK.out.2.2⟩)
          gi_wp2_with fail
          refine ⟨(fun f h => by cases h), ?_⟩
          gi_wp2_with fail
          go_roundw
          case rel => exact ⟨i + 1, by omega, by go_num, K⟩
          case measure => simp [intOf]; omega
        | true =>
          obtain ⟨r, hr⟩ := tri_at HALL.out hlt H3.out
          have hT2 : triI 1 zs hi lo (i + 1) = triI 1 zs hi lo i ++ [mk3 hi lo i] := by rw [triI, H3.out]; rfl
          rw [← HM.out] at hr hT2
          have HK2 := hidd (HK.out.1.below hJ HIN.out HK.out.1.2.2.2 HK.out.1.2.2.1.lt (Below.refl wr.heap.size wr).drew)
          obtain ⟨fn, tmps, assign, bdy, hyy, hRn⟩ := HY.out _ M r wr.drew hr HK2.out.1
          have HRR := hidd hRn
          have HA := hidd hr
          have HT2 := hidd hT2
          have HBB := hidd HK.out.2.1.drew
          have HKX := hidd HK.out.2.2
          clear hRn hr hT2 HK
          dsimp only [encT] at hyy
          gi_wp2_with fail
          refine ⟨(fun h => by cases h), (round_any HRR.out).mono ?_⟩
          rintro e W3 ⟨hk3, ⟨rfl, hJ3⟩ | ⟨rfl, hx3⟩⟩
          · have KX : Kx [W.heap.size + 1] w1.heap.size Wx W3 := (show Kx [W.heap.size + 1] w1.heap.size Wx wr.drew from HKX.out).trans ⟨hk3.1, fun k hk hb => hk3.2 k hk (by
              have := HS1.out
              simp only [List.mem_cons, List.not_mem_nil, or_false] at hb
              exact .inl (by omega))⟩
            have K := hidd (show RelTt zs N 1 Bp Bq W.heap.size J W l (triE 1 zs pre ++ triI 1 zs hi lo (i + 1)) W3 ∧ Blk W3 b #[.int .i64 (lo : Int), .int .i64 (hi : Int)] 70 ∧ Kx [W.heap.size + 1] w1.heap.size Wx W3 from
              ⟨⟨by rw [HT2.out, ← List.append_assoc]; exact hJ3, HK2.out.2.1.same (fun b hb => hk3.2 b (Nat.lt_of_lt_of_le (HIN.out b hb) HK2.out.2.2.2) (.inr hb)),
                (hk3.2 _ HK2.out.2.2.1.lt (.inl (Nat.le_refl _))).trans HK2.out.2.2.1, Nat.le_trans HK2.out.2.2.2 hk3.1⟩, (hk3.2 _ HBB.out.lt (.inl hWb)).trans HBB.out, KX⟩)
            clear hk3 hJ3 KX
            gi_wp2_with fail
            go_roundw
            case rel => exact ⟨i + 1, by omega, by go_num, K⟩
            case measure => simp [intOf]; omega
          · have KX := hidd ((show Kx [W.heap.size + 1] w1.heap.size Wx wr.drew from HKX.out).trans (show Kx [W.heap.size + 1] w1.heap.size wr.drew W3 from ⟨hk3.1, fun k hk hb => hk3.2 k hk (by
              have := HS1.out
              simp only [List.mem_cons, List.not_mem_nil, or_false] at hb
              exact .inl (by omega))⟩))
            have K := hidd (show ∃ L x r, triK 1 zs N = L ++ x :: r ∧ Jx (L ++ [x]) W3 from ⟨_, M, r, HA.out, hx3⟩)
            clear hk3 hx3
            gi_wp2_with fail
            exact ⟨KX.out, K.out⟩
      · have hie : i = lo := by omega
        subst hie
        have K := hidd (show RelTt zs N 1 Bp Bq W.heap.size J W l (triE 1 zs (pre ++ [(q, i, hi)])) wr by
          rw [triE_app, triE, triE, List.append_nil]; exact HK.out.1)
        have c0 := HK.out.2.1.cell (j := 0) (show _ = some (Value.int .i64 (i : Int)) from rfl)
        gi_wp2_with fail
        exact ⟨HK.out.2.2, K.out⟩
  case done =>
    intro D Wx hD hI hdef
    have hM := hidd (show Mks w1.heap.size [D] Wx from (Mks.nil _ _).cons hD (by simp) hdef)
    have HJ := hidd hI.1
    clear hI hdef
    gi_wp2
    refine leave_marks [D] Wx hM.out (fun W' hb _ => ⟨results_none rfl _ _ _, ⟨_, rfl⟩, .inl ?_⟩)
    have h := hJ _ _ _ HJ.out (hb.mono (show W.heap.size ≤ w1.heap.size by have := HS1.out; omega))
    rw [triE_all] at h; exact h
  case stop =>
    intro D pre x rest Wx hD hall hIx hdef
    have hM := hidd (show Mks w1.heap.size [D] Wx from (Mks.nil _ _).cons hD (by simp) hdef)
    obtain ⟨L, y, r, hL, hx⟩ := hIx
    have HX := hidd hx
    have HA := hidd hL
    clear hx hL hdef
    gi_wp2
    exact leave_marks [D] Wx hM.out (fun W' hb hcc => ⟨results_none rfl _ _ _, ⟨_, rfl⟩, .inr ⟨L, y, r, HA.out, hJx _ _ _ HX.out (hb.mono (show W.heap.size ≤ w1.heap.size by have := HS1.out; omega)) hcc⟩⟩)
end Go.Proofs.Ytidengcihakijaa
