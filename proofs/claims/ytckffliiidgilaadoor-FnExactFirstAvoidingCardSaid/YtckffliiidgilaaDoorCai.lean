/- CountAvoiding: the program. -/
import Derived.Test.YtckffliiidgilaaDoorCav
namespace Go.Proofs.YtckffliiidgilaaDoor
set_option linter.unusedVariables false
set_option linter.unusedSimpArgs false
open Go Go.RowKit Go.Shelf Go.Extern.Stop Go.Stop Go.Extern
attribute [local go_sem] Oper.semAt_some
theorem inBuildNk {F : Fence} {m : Nat} {ops : Array Oper} {rest : List Oper} {o : Oper} {a : Act} {w : World} {Q : Exit → Act → World → Prop} {n k : Int} (hgd : o.guard = none) (x y : Operand) (ho : o.op = .build 28 #[(0, x), (1, y)])
    (hx : a.eval x = .int .i64 n) (hy : a.eval y = .int .i64 k) (C : Array Value) (hC : C = (ccells n k zbl).toArray) (h : wpListIn F m Tryd.prog ops Q rest (a.put o.dst (.agg C)) w) : wpListIn F m Tryd.prog ops Q (o :: rest) a w := by
  have hbu := built26nk n k
  rw [← hC] at hbu
  have e : ((#[(0, x), (1, y)] : Array (Nat × Operand)).map fun (i, x) => (i, a.eval x)).toList = [(0, .int .i64 n), (1, .int .i64 k)] := by simp [hx, hy]
  clear hC
  exact inBuild hgd 28 _ ho C (by rw [e]; exact hbu) h
theorem szCode_one {k : Int} {zs : List Int} (h1 : 1 ≤ k) (h2 : k ≤ 4) (hk : (zs.length : Int) = k) : szCode 1 k zbl zs = if szP zs zs.length = true then 0 else 2 := by
  have hso : szOk k zs = szP zs zs.length := by unfold szOk; rw [decide_eq_true hk]; rfl
  cases h : szP zs zs.length with
  | true => exact szCode_0 (isCol_one h1 h2) (by rw [hso]; exact h)
  | false => exact szCode_2 (isCol_one h1 h2) (by rw [hso]; exact h)
set_option maxRecDepth 100000 in
set_option maxHeartbeats 4000000 in
theorem impl34_bad (n : Int) (zs : List Int) (a : Option Addr) (cap : Nat) (e0 : Addr) (w : World) (hs : SlI w a zs) (hl : zs.length ≤ 1048576) (hE : Er w e0) (h : caOk n zs = false) :
    Calls Tryd.prog 34 #[.int .i64 n, .slice a zs.length cap] w fun e w' => e = .returned (.tuple #[.int .i64 0, .int .i64 2]) ∧ Below w.heap.size w w' := by
  have HSL := hidd hs
  have HE := hidd hE
  cases hx : inB n 1 (gcN (zs.length : Int)) with
  | false =>
    have HX := hidd hx
    clear hs hE hx
    go_enter Tryd.func34, Tryd.ntmps34
    go_wp2_with (first
      | (go_at_call 63; refine (gc63 _ _).mono ?_; rintro e w' ⟨rfl, rfl⟩)
      | (go_at_call 62; refine (within45 _ _ _ _).mono ?_; rintro e w' ⟨rfl, rfl⟩; rw [HX.out]))
    go_ret2
    exact ⟨rfl, Below.refl _ _⟩
  | true =>
    have HX := hidd hx
    have hsz : szP zs zs.length = false := by
      unfold caOk at h; rw [hx] at h; exact h
    have hb := inB_bd hx
    have hk : 1 ≤ (zs.length : Int) ∧ (zs.length : Int) ≤ 4 := by
      have h0 : 1 ≤ gcN (zs.length : Int) := by omega
      unfold gcN at h0
      split at h0
      · omega
      · split at h0
        · omega
        · split at h0 <;> omega
    have hc := szCode_one (zs := zs) hk.1 hk.2 rfl
    rw [hsz] at hc
    have hc2 : szCode 1 (zs.length : Int) zbl zs = 2 := hc
    have HEN := hidd (fun W h hE => enter58 1 (zs.length : Int) zbl zbl_bys zs a cap e0 W h hl hE)
    rw [hc2] at HEN
    have hen : enS 1 (zs.length : Int) zbl zs a cap = scl 0 0 zbl none 0 0 := by unfold enS; rw [if_neg (by rw [hc2]; decide)]
    rw [hen] at HEN
    obtain ⟨D, hD⟩ : ∃ D, D = (scl 0 0 zbl none 0 0).toArray := ⟨_, rfl⟩
    have HD := hidd (show (Tryd.prog.info? 56).map (·.size) = some D.size ∧ (scl 0 0 zbl none 0 0).toArray.size = D.size ∧ D.all (·.oneCell') = true from by
      rw [hD]; exact ⟨size_s56 zbl_bys _ _ _, rfl, scl_one⟩)
    obtain ⟨C, hC⟩ : ∃ C, C = (ccells 1 (zs.length : Int) zbl).toArray := ⟨_, rfl⟩
    have HC := hidd hC
    rw [← hD, ← hC] at HEN
    have Hz := zero56
    have HJ := hidd (fun (W1 : World) (hb1 : Below w.heap.size w W1) =>
      (show Below w.heap.size w ((W1.alloc (.cells (scl 0 0 zbl none 0 0).toArray 56)).setRow W1.heap.size D) from
        below_setRow (hb1.alloc hb1.size _) hb1.size _))
    clear hs hE hx hsz hb hk hc hc2 hen hD hC
    go_enter Tryd.func34, Tryd.ntmps34
    go_wp2_with (first
      | (go_at_call 63; refine (gc63 _ _).mono ?_; rintro e w' ⟨rfl, rfl⟩)
      | (go_at_call 62; refine (within45 _ _ _ _).mono ?_; rintro e w' ⟨rfl, rfl⟩; rw [HX.out])
      | (refine wpList_nk rfl _ _ rfl rfl rfl ?_; rw [← HC.out])
      | (go_at_call 58; refine (HEN.out _ HSL.out HE.out).mono ?_; rintro e w1 ⟨rfl, hb1⟩; have J := hidd (HJ.out w1 hb1); clear hb1; obtain ⟨W4, hW4⟩ : ∃ W4, W4 = (w1.alloc (.cells (scl 0 0 zbl none 0 0).toArray 56)).setRow w1.heap.size D := ⟨_, rfl⟩; rw [← hW4] at J)
      | (refine wpList_store_row rfl 56 (.tmp 6) (.tmp 21) rfl w1.heap.size _ rfl rfl 56 _ (Blk.new _ _ _ _ rfl) HD.out.1 HD.out.2.1 HD.out.2.2 ?_; rw [← hW4]; clear hW4))
    go_ret2
    exact ⟨rfl, J.out⟩
set_option maxRecDepth 100000 in
set_option maxHeartbeats 4000000 in
theorem impl34_good (N K : Nat) (zs : List Int) (bl off cap : Nat) (e0 : Addr) (w : World) (hs : SlI w (some ⟨bl, off, none⟩) zs) (hl : zs.length ≤ 1048576) (hE : Er w e0) (hlK : zs.length = K) (hx : inB (N : Int) 1 (gcN (K : Int)) = true) (n1 : 1 ≤ N) (n6 : N ≤ 6) (k1 : 1 ≤ K) (k4 : K ≤ 4) (hsp : szP zs K = true) (hbl : bl < w.heap.size) :
    Calls Tryd.prog 34 #[.int .i64 (N : Int), .slice (some ⟨bl, off, none⟩) K cap] w fun e w' => e = .returned (.tuple #[.int .i64 ((gwL zs K N 1 zbl).length : Int), .int .i64 0]) ∧ Below w.heap.size w w' := by
  have Hz := zero56
  have HX := hidd hx
  have HSL := hidd hs
  have HE := hidd hE
  have hc := szCode_one (k := (K : Int)) (zs := zs) (by omega) (by omega) (by omega)
  rw [hlK, hsp] at hc
  have hc2 : szCode 1 (K : Int) zbl zs = 0 := hc
  have HEN := hidd (fun W h hE => enter58 1 (K : Int) zbl zbl_bys zs (some ⟨bl, off, none⟩) cap e0 W h hl hE)
  have hen : enS 1 (K : Int) zbl zs (some ⟨bl, off, none⟩) cap = scl 1 (K : Int) zbl (some ⟨bl, off, none⟩) K cap := by unfold enS; rw [if_pos hc2, hlK]
  rw [hen, hc2, hlK] at HEN
  obtain ⟨D, hD⟩ : ∃ D, D = (scl 1 (K : Int) zbl (some ⟨bl, off, none⟩) K cap).toArray := ⟨_, rfl⟩
  have HD := hidd (show (Tryd.prog.info? 56).map (·.size) = some D.size ∧ (scl 0 0 zbl none 0 0).toArray.size = D.size ∧ D.all (·.oneCell') = true from by
    rw [hD]; exact ⟨size_s56 zbl_bys _ _ _, by simp [scl_len zbl_bys], scl_one⟩)
  have H64 := hidd (fun W => at64 1 (K : Int) zbl zbl_bys (some ⟨bl, off, none⟩) K cap D hD (N : Int) W)
  have HIT := hidd (fun b1 b2 W (hX1 : Blk W b1 D 56) hX2 hs hbl => grown92 zs K bl off cap N 1 b1 b2 zbl W hlK k1 k4 hsp (by omega) (by omega) n1 zbl_bys (isCol_one (by omega) (by omega)) hs hbl (by rw [show ((1 : Nat) : Int) = 1 from rfl, ← hD]; exact hX1) hX2)
  have hmany : (gwL zs K N 1 zbl).length ≤ 1152921504606846976 := by
    unfold gwL
    split
    · exact Nat.le_trans (grL_many zs k4 (M := 6) (N - 1) 1 zbl (by omega)) (Nat.le_trans (Nat.pow_le_pow_right (by decide) (show N - 1 ≤ 5 by omega)) (by decide))
    · simp
  obtain ⟨L, hL⟩ : ∃ L, L = gwL zs K N 1 zbl := ⟨_, rfl⟩
  rw [← hL] at HIT hmany ⊢
  obtain ⟨C, hC⟩ : ∃ C, C = (ccells 1 (K : Int) zbl).toArray := ⟨_, rfl⟩
  have HC := hidd hC
  rw [← hD, ← hC] at HEN
  have HJ := hidd (fun (W1 : World) (hb1 : Below w.heap.size w W1) =>
    (show Below w.heap.size w ((W1.alloc (.cells (scl 0 0 zbl none 0 0).toArray 56)).setRow W1.heap.size D) ∧ Blk ((W1.alloc (.cells (scl 0 0 zbl none 0 0).toArray 56)).setRow W1.heap.size D) W1.heap.size D 56 from
      ⟨below_setRow (hb1.alloc hb1.size _) hb1.size _, (Blk.new _ _ _ _ rfl).rowSame _⟩))
  clear hs hE hx hc hc2 hen hD hC hL hl
  refine (callsIn_wide (n := 2)).1 (callsIn_of_wp_marks Tryd.func34 rfl trivial ?_ rfl)
  simp only [Tryd.ntmps34, List.size_toArray, List.length_cons, List.length_nil, Nat.reduceAdd, Nat.reduceSub, Array.replicate_succ, Array.replicate_zero, List.push_toArray, List.append_toArray, List.nil_append, List.cons_append]
  gi_wp2_with fail
  refine ⟨trivial, (callsIn_wide.2 (gc63 _ _)).mono ?_⟩
  rintro e w' ⟨rfl, rfl⟩
  gi_wp2_with fail
  refine ⟨trivial, (callsIn_wide.2 (within45 _ _ _ _)).mono ?_⟩
  rintro e w' ⟨rfl, rfl⟩
  rw [HX.out]
  gi_wp2_with (refine inBuildNk rfl _ _ rfl rfl rfl C HC.out ?_)
  refine ⟨trivial, (callsIn_wide.2 (HEN.out _ HSL.out HE.out)).mono ?_⟩
  rintro e w1 ⟨rfl, hb1⟩
  have J := hidd (HJ.out w1 hb1)
  clear hb1
  obtain ⟨W4, hW4⟩ : ∃ W4, W4 = (w1.alloc (.cells (scl 0 0 zbl none 0 0).toArray 56)).setRow w1.heap.size D := ⟨_, rfl⟩
  rw [← hW4] at J
  obtain ⟨W6, hW6⟩ : ∃ W6, W6 = W4.alloc (.cells #[.int .i64 0] 2) := ⟨_, rfl⟩
  have J6 := hidd (show Below w.heap.size w W6 ∧ Blk W6 w1.heap.size D 56 ∧ Blk W6 W4.heap.size #[.int .i64 0] 2 ∧ W6.heap.size = W4.heap.size + 1 ∧ w.heap.size ≤ W4.heap.size from by
    rw [hW6]; exact ⟨J.out.1.alloc J.out.1.size _, J.out.2.alloc _, Blk.new _ _ _ _ rfl, by simp, J.out.1.size⟩)
  gi_wp2_with (first
    | (refine inStoreRow rfl 56 (.tmp 6) (.tmp 21) rfl w1.heap.size _ rfl rfl 56 _ (Blk.new _ _ _ _ rfl) HD.out.1 HD.out.2.1 HD.out.2.2 ?_; rw [← hW4]; clear hW4)
    | (rw [← hW6]; clear hW6; refine inLoadRow rfl 56 (.tmp 6) rfl w1.heap.size rfl 56 _ _ J6.out.2.1 Tryd.underlying56 rfl HD.out.1 ?_))
  refine ⟨trivial, (callsIn_wide.2 (H64.out _)).mono ?_⟩
  rintro e w5 ⟨rfl, kB1, kB2, hb5⟩
  have H5 := hidd (show W4.heap.size < W6.heap.size ∧ W6.heap.size + 1 < w5.heap.size ∧ w.heap.size ≤ W4.heap.size from ⟨by have := J6.out; omega, kB2.lt, J6.out.2.2.2.2⟩)
  have HR5 := hidd (show Blk w5 W4.heap.size #[.int .i64 (([] : List (List Nat)).length : Int)] 2 ∧ Below w.heap.size w w5 from ⟨J6.out.2.2.1.below hb5 J6.out.2.2.1.lt, J6.out.1.trans (hb5.mono J6.out.1.size)⟩)
  have HIT5 := hidd (HIT.out _ _ w5 kB1 kB2 (HSL.out.below HR5.out.2 (Nat.le_refl _)) (Nat.lt_of_lt_of_le hbl HR5.out.2.size))
  clear kB1 kB2 hb5
  gi_wp2_with fail
  have HST := hidd (show Stab w5.heap.size (fun (pre : List (List Nat)) Wx => Blk Wx W4.heap.size #[.int .i64 (pre.length : Int)] 2 ∧ Below w.heap.size w Wx) from
    fun pre A A' h hb => ⟨h.1.below hb (by have := H5.out; omega), h.2.trans (hb.mono (by have := H5.out; omega))⟩)
  refine range_gives rfl (enters_of Tryd.func92 (by kernel_rfl) rfl) HIT5.out (fun b hb => by
      have := H5.out
      have h2 := HR5.out.2.size
      simp only [List.mem_cons, List.not_mem_nil, or_false] at hb
      rcases hb with rfl | rfl | rfl <;> omega) (fun _ => rfl)
    (fun (pre : List (List Nat)) Wx => Blk Wx W4.heap.size #[.int .i64 (pre.length : Int)] 2 ∧ Below w.heap.size w Wx) (fun _ _ => False) HST.out (fun _ _ _ h _ _ => h.elim) HR5.out
    (fun x a' Wx => a' = { tmps := #[.int .i64 (N : Int), .slice (some ⟨bl, off, none⟩) K cap, undef, undef, .int .i64 0, .int .i64 0, .pointer (some ⟨w1.heap.size, 0, none⟩), .int .i64 0, .pointer (some ⟨W4.heap.size, 0, none⟩), .int .i64 (N : Int), .slice (some ⟨bl, off, none⟩) K cap, .int .i64 (K : Int), .int .i64 (gcN (K : Int)), .bool true, .bool false, .tuple #[.agg D, .int .i64 0], .slice (some ⟨bl, off, none⟩) K cap, .int .i64 (K : Int), .agg C, .slice (some ⟨bl, off, none⟩) K cap, .tuple #[.agg D, .int .i64 0], .agg D, .int .i64 0, .int .i64 0, .bool false, undef, .agg D, .int .i64 (N : Int), .func (.func 92) #[] #[.pointer (some ⟨W6.heap.size, 0, none⟩), .pointer (some ⟨W6.heap.size + 1, 0, none⟩)], .agg (ccells (N : Int) (K : Int) x).toArray, undef, undef, undef], defers := [] }) (fun x a' A l o o' h _ _ => h) ?assign ?body ?done ?stop
  case assign =>
    intro l' pre x rest Wx Kx' hall hI hs hK
    have HK := hidd hK
    clear hK hI
    dsimp only [encG]
    gi_wp2
    exact HK.out _ _ (Below.refl _ _) (by first | (simp; done) | kernel_rfl)
  case body =>
    rintro l' pre x rest a' Wx hall hsz ⟨hI1, hI2⟩ rfl
    have c8 := hI1.cell (j := 0) (show _ = some (Value.int .i64 (pre.length : Int)) from rfl)
    have f8 := hI1.fro 0
    have hlen : pre.length + 1 ≤ L.length := by rw [hall]; simp
    have hw1 : IntKind.i64.wrap ((pre.length : Int) + 1) = (pre.length : Int) + 1 := IntWalk.i64_in _ (by omega)
    have hw2 : wrap64 ((pre.length : Int) + 1) = (pre.length : Int) + 1 := IntWalk.wrap64_in _ ⟨by omega, by omega⟩
    have HF := hidd (show Kx [W6.heap.size, W6.heap.size + 1, bl] w5.heap.size Wx (Wx.setCell ⟨W4.heap.size, 0, none⟩ (.int .i64 ((pre.length : Int) + 1))) ∧ Blk (Wx.setCell ⟨W4.heap.size, 0, none⟩ (.int .i64 ((pre.length : Int) + 1))) W4.heap.size #[.int .i64 ((pre ++ [x]).length : Int)] 2 ∧ Below w.heap.size w (Wx.setCell ⟨W4.heap.size, 0, none⟩ (.int .i64 ((pre.length : Int) + 1))) from by
      have h5 := H5.out
      refine ⟨⟨by simp [World.setCell], fun k hk hb => heap_setCell_other Wx _ k _ ?_⟩, ?_, hI2.setCell (by show w.heap.size ≤ W4.heap.size; omega) _⟩
      · show k ≠ W4.heap.size
        rcases hb with hb | hb
        · omega
        · simp only [List.mem_cons, List.not_mem_nil, or_false] at hb
          rcases hb with rfl | rfl | rfl <;> omega
      · have := hI1.same 0 (.int .i64 ((pre.length : Int) + 1))
        rw [List.length_append]
        exact this)
    clear hI1 hI2 hall hlen
    gi_wp2_with fail
    exact HF.out
  case done =>
    rintro Dd Wx hD ⟨hI1, hI2⟩ hdef
    have c8 := hI1.cell (j := 0) (show _ = some (Value.int .i64 (L.length : Int)) from rfl)
    have hM := hidd (show Mks w5.heap.size [Dd] Wx from (Mks.nil _ _).cons hD (by simp) hdef)
    have HB := hidd hI2
    clear hI1 hI2 hdef
    gi_wp2_with fail
    refine leave_marks (B := w5.heap.size) (v := .tuple #[.int .i64 (L.length : Int), .int .i64 0]) [Dd] _ hM.out (fun W' hb _ => ?_)
    exact ⟨by simp [results, Tryd.results34, go_sem], rfl, HB.out.trans (hb.mono (by have := H5.out; omega))⟩
  case stop => intro Dd pre x rest Wx hD hall h; exact h.elim
theorem impl34 (n : Int) (zs : List Int) (a : Option Addr) (cap : Nat) (e0 : Addr) (w : World) (hs : SlI w a zs) (hl : zs.length ≤ 1048576) (hE : Er w e0) :
    Calls Tryd.prog 34 #[.int .i64 n, .slice a zs.length cap] w fun e w' => e = .returned (.tuple #[.int .i64 (caV n zs), .int .i64 (caC n zs)]) ∧ Below w.heap.size w w' := by
  cases h : caOk n zs with
  | false =>
    rw [(ca_bad h).1, (ca_bad h).2]
    exact impl34_bad n zs a cap e0 w hs hl hE h
  | true =>
    obtain ⟨b1, b2, b3, b4, b5⟩ := ca_bd h
    rw [(ca_good h).1, (ca_good h).2]
    obtain ⟨N, rfl⟩ := Int.eq_ofNat_of_zero_le (show 0 ≤ n by omega)
    obtain ⟨bl, off, rfl, hbl⟩ := sl_some hs b3
    have hx : inB (N : Int) 1 (gcN (zs.length : Int)) = true := by
      unfold caOk at h; rw [Bool.and_eq_true] at h; exact h.1
    exact impl34_good N zs.length zs bl off cap e0 w hs hl hE rfl hx (by omega) (by omega) b3 b4 b5 hbl
end Go.Proofs.YtckffliiidgilaaDoor
