/- FreeChanges: the program. -/
import Derived.Test.YtckffliiidgilaaDoorFci
import Derived.Test.YtckffliiidgilaaDoorBcg
namespace Go.Proofs.YtckffliiidgilaaDoor
set_option linter.unusedVariables false
set_option linter.unusedSimpArgs false
open Go Go.RowKit Go.Shelf Go.Extern.Stop Go.Stop Go.Extern
attribute [local go_sem] Oper.semAt_some
def tcl3 (x : Nat × Nat × Nat) : Array Value := #[.int .i64 (x.1 : Int), .int .i64 (x.2.1 : Int), .int .i64 (x.2.2 : Int)]
theorem info85 : (Tryd.prog.info? 85).map (fun i => (i.zero, i.size)) = some (some (.agg #[.int .i64 0, .int .i64 0, .int .i64 0]), 3) := by kernel_rfl
theorem zero85 : ∀ w, (zeroValue 85).run Tryd.prog w = .ok (.agg #[.int .i64 0, .int .i64 0, .int .i64 0]) w := (zero_of_info info85).1
theorem size85 (x : Nat × Nat × Nat) : (Tryd.prog.info? 85).map (·.size) = some (tcl3 x).size := by kernel_rfl
theorem own_tr2 {w : World} {x : Nat × Nat × Nat} : OwnL (w.alloc (.cells (tcl3 x) 2)) w.heap.size (some ⟨w.heap.size, 0, none⟩) (trL x) :=
  own_of_blk (zs := trL x) (Blk.new _ _ _ _ rfl) (Nat.le_refl _)
theorem at71 (n k : Int) (bs : List Nat) (hb : Bys bs) (C : Array Value) (hC : C = (ccells n k bs).toArray) (w : World) :
    Calls Tryd.prog 71 #[.agg C] w fun e w' => e = .returned (.func (.func 95) #[] #[.pointer (some ⟨w.heap.size, 0, none⟩)]) ∧ Blk w' w.heap.size C 28 ∧ Below w.heap.size w w' := by
  have hmf : ∀ (fn : Fn) (first cap : Array Value) (w : World), (Instr.makeFunc fn first cap).run Tryd.prog w = .ok (.func fn first cap) w := fun _ _ _ _ => rfl
  have hbb := hidd ((Below.refl w.heap.size w).alloc (Nat.le_refl _) (.cells C 28))
  have h1 := hidd (Blk.new w C 28 _ rfl)
  clear hC
  go_enter Tryd.func71, Tryd.ntmps71
  go_wp2_with fail
  go_ret
  exact ⟨rfl, h1.out, hbb.out⟩
set_option maxRecDepth 100000 in
set_option maxHeartbeats 4000000 in
theorem impl39_bad (n k : Int) (bs : List Nat) (hb : Bys bs) (zs : List Int) (a : Option Addr) (cap : Nat) (e0 : Addr) (w : World) (hs : SlI w a zs) (hl : zs.length ≤ 1048576) (hE : Er w e0) (h0 : eaC 17 n k bs zs ≠ 0) :
    Calls Tryd.prog 39 #[.agg (ccells n k bs).toArray, .slice a zs.length cap] w fun e w' => LLOut w [] (eaC 17 n k bs zs) e w' := by
  have Hz := zero56
  have HS := hidd (size_c26 n k hb)
  have HSL := hidd hs
  have HE := hidd hE
  have HEN := hidd (fun W h hE => ea47 17 n k bs hb zs a cap e0 W h hl hE)
  have HG := hidd (show Blk ((w.alloc (.cells (ccells n k bs).toArray 28)).alloc (.cells #[.slice a zs.length cap] 25)) w.heap.size (ccells n k bs).toArray 28 ∧ Blk ((w.alloc (.cells (ccells n k bs).toArray 28)).alloc (.cells #[.slice a zs.length cap] 25)) (w.heap.size + 1) #[.slice a zs.length cap] 25 ∧ Below w.heap.size w ((w.alloc (.cells (ccells n k bs).toArray 28)).alloc (.cells #[.slice a zs.length cap] 25)) from
    ⟨(Blk.new _ _ _ _ rfl).alloc _, Blk.new _ _ _ _ (by simp), ((Below.refl w.heap.size w).alloc (Nat.le_refl _) _).alloc (by simp) _⟩)
  obtain ⟨W0, hW0⟩ : ∃ W0, W0 = (w.alloc (.cells (ccells n k bs).toArray 28)).alloc (.cells #[.slice a zs.length cap] 25) := ⟨_, rfl⟩
  rw [← hW0] at HG
  obtain ⟨D, hD⟩ : ∃ D, D = (eaS 17 n k bs zs a cap).toArray := ⟨_, rfl⟩
  obtain ⟨cd, hcd⟩ : ∃ cd, cd = eaC 17 n k bs zs := ⟨_, rfl⟩
  have hDs : (Tryd.prog.info? 56).map (·.size) = some D.size ∧ (scl 0 0 zbl none 0 0).toArray.size = D.size ∧ D.all (·.oneCell') = true := by
    rw [hD]; unfold eaS
    split
    · exact ⟨size_s56 hb _ _ _, by simp [scl_len zbl_bys, scl_len hb], scl_one⟩
    · exact ⟨size_s56 zbl_bys _ _ _, rfl, scl_one⟩
  have HD := hidd hDs
  rw [← hD, ← hcd] at HEN
  rw [← hcd] at h0 ⊢
  have hne : (cd != 0) = true := by rw [bne_iff_ne]; exact h0
  have HJ := hidd (fun (W1 : World) (hb1 : Below W0.heap.size W0 W1) =>
    (show Below w.heap.size w ((W1.alloc (.cells (scl 0 0 zbl none 0 0).toArray 56)).setRow W1.heap.size D) from by
      have k3 := HG.out.2.2.trans (hb1.mono HG.out.2.2.size)
      exact below_setRow (k3.alloc (by have := k3.size; omega) _) (by have := k3.size; omega) _))
  have c3 := HG.out.2.1.cell (j := 0) (show _ = some (Value.slice a zs.length cap) from rfl)
  clear hDs hs hE hD hcd h0
  go_enter Tryd.func39, Tryd.ntmps39
  go_upto_region 1 with fail
  rw [← hW0]
  clear hW0
  go_wp2_with (refine wpList_load_row rfl 28 (.tmp 2) rfl w.heap.size rfl 28 _ (0,0) _ HG.out.1 Tryd.underlying28 rfl HS.out ?_)
  refine (HEN.out _ (HSL.out.below HG.out.2.2 (Nat.le_refl _)) (HE.out.below HG.out.2.2 HE.out.lt)).mono ?_
  rintro e w1 ⟨rfl, hb1⟩
  have J := hidd (HJ.out w1 hb1)
  clear hb1 c3
  obtain ⟨W4, hW4⟩ : ∃ W4, W4 = (w1.alloc (.cells (scl 0 0 zbl none 0 0).toArray 56)).setRow w1.heap.size D := ⟨_, rfl⟩
  rw [← hW4] at J
  go_wp2_with (refine wpList_store_row rfl 56 (.tmp 6) (.tmp 19) rfl w1.heap.size _ rfl rfl 56 _ (Blk.new _ _ _ _ rfl) HD.out.1 HD.out.2.1 HD.out.2.2 ?_; rw [← hW4]; clear hW4)
  go_ret2
  exact llout_nil rfl J.out
/-- The boxes of x and of the sizes, and the list that grows, behind D. -/
def RelFd (w : World) (C : Array Value) (sl : Value) (b8 D : Nat) (L : List (List Int)) (W : World) : Prop := Blk W w.heap.size C 28 ∧ Blk W (w.heap.size + 1) #[sl] 25 ∧ (∃ v, Blk W b8 #[v] 39 ∧ LLW W D v L) ∧ L.length ≤ 1000 ∧ Below w.heap.size w W
set_option maxRecDepth 100000 in
set_option maxHeartbeats 8000000 in
theorem impl39_good (N K : Nat) (bs : List Nat) (hb : Bys bs) (zs : List Int) (bl off cap : Nat) (e0 : Addr) (w : World) (hs : SlI w (some ⟨bl, off, none⟩) zs) (hl : zs.length ≤ 1048576) (hE : Er w e0) (h0 : eaC 17 (N : Int) (K : Int) bs zs = 0) (hlK : zs.length = K) (n1 : 1 ≤ N) (n17 : N ≤ 17) (k1 : 1 ≤ K) (k4 : K ≤ 4) (hi : isCol (N : Int) (K : Int) bs = true) (hav : avP N bs zs K = true) (hsp : szP zs K = true) (hbl : bl < w.heap.size) :
    Calls Tryd.prog 39 #[.agg (ccells (N : Int) (K : Int) bs).toArray, .slice (some ⟨bl, off, none⟩) K cap] w fun e w' => LLOut w (fcA (N : Int) (K : Int) bs zs) 0 e w' := by
  have Hz := zero56
  have HZ8 := zero26
  have HZT := zero85
  have HS := hidd (size_c26 (N : Int) (K : Int) hb)
  have HSL := hidd hs
  have HE := hidd hE
  have HEN := hidd (fun W h hE => ea47 17 (N : Int) (K : Int) bs hb zs (some ⟨bl, off, none⟩) cap e0 W h hl hE)
  rw [h0, hlK] at HEN
  have hcz : ∀ j, j < K → w.cell? ⟨bl, off + j, none⟩ = some (.int .i64 (zs.getD j 0)) := by
    rcases hs with h | ⟨b', o', ha, hc⟩
    · rw [h] at hlK; simp at hlK; omega
    · cases ha
      intro j hj
      exact hc j (by omega)
  have HCZ := hidd (fun W (h : Below w.heap.size w W) j (hj : j < K) => (show W.cell? ⟨bl, off + j, none⟩ = some (.int .i64 (zs.getD j 0)) from cell_below (hcz j hj) h))
  obtain ⟨D, hD⟩ : ∃ D, D = (scl (N : Int) (K : Int) bs (some ⟨bl, off, none⟩) K cap).toArray := ⟨_, rfl⟩
  have hDe : eaS 17 (N : Int) (K : Int) bs zs (some ⟨bl, off, none⟩) cap = scl (N : Int) (K : Int) bs (some ⟨bl, off, none⟩) K cap := by unfold eaS; rw [if_pos h0, hlK]
  rw [hDe, ← hD] at HEN
  have HD := hidd (show (Tryd.prog.info? 56).map (·.size) = some D.size ∧ (scl 0 0 zbl none 0 0).toArray.size = D.size ∧ D.all (·.oneCell') = true from by
    rw [hD]; exact ⟨size_s56 hb _ _ _, by simp [scl_len zbl_bys, scl_len hb], scl_one⟩)
  obtain ⟨flt, hflt⟩ : ∃ flt : List (Nat × Nat × Nat) → List (List Int), flt = fun xs => (xs.filter (frC bs N zs)).map trL := ⟨_, rfl⟩
  have hfl : fcA (N : Int) (K : Int) bs zs = flt (chL bs K N N) := by rw [hflt]; rfl
  obtain ⟨all, hall⟩ : ∃ all, all = chL bs K N N := ⟨_, rfl⟩
  have hlen := chL_len (bs := bs) n17 k4
  rw [← hall] at hfl hlen
  have HFZ := hidd (show flt [] = [] by rw [hflt]; rfl)
  have HLE := hidd (fun pre x rest (h : all = pre ++ x :: rest) => (show (flt (pre ++ [x])).length ≤ 1000 from by
    rw [h] at hlen
    rw [hflt, List.length_map]
    refine Nat.le_trans (List.length_filter_le _ _) ?_
    simp only [List.length_append, List.length_cons, List.length_nil] at hlen ⊢
    omega))
  -- one change: its edge, its colour, what the program asks and what comes of it
  have HX := hidd (fun (x : Nat × Nat × Nat) (hx : x ∈ all) (xs : List (Nat × Nat × Nat)) => (show x.1 < x.2.1 ∧ x.2.1 < N ∧ x.2.2 < K ∧ codeC (N : Int) (K : Int) bs (x.1 : Int) (x.2.1 : Int) (x.2.2 : Int) = 0 ∧ Bys (setAt bs (x.1 : Int) (x.2.1 : Int) (x.2.2 : Int)) ∧
      (∀ v, v = fosX (nsF (setAt bs (x.1 : Int) (x.2.1 : Int) (x.2.2 : Int)) (x.2.2 : Int) (eseq N)) N (zs.getD x.2.2 0) → (v = 0 → flt (xs ++ [x]) = flt xs ++ [trL x]) ∧ (v ≠ 0 → flt (xs ++ [x]) = flt xs)) from by
    rw [hall] at hx
    obtain ⟨h1, h2, h3⟩ := chL_mem hx
    have hp := frC_prog hb n1 n17 hsp hav h1 h2 h3
    refine ⟨h1, h2, h3, codeC_0 hi ?_ ?_, setAt_bys hb _ _ (by omega) (by omega), fun v hv => ⟨fun h => ?_, fun h => ?_⟩⟩
    · exact pairB_yes (inB_yes (by omega) (by omega)) (inB_yes (by omega) (by omega)) (by omega)
    · exact inB_yes (by omega) (by omega)
    · rw [← hv, decide_eq_true h] at hp
      rw [hflt]; simp [hp]
    · rw [← hv, decide_eq_false h] at hp
      rw [hflt]; simp [hp]))
  have HCE := hidd (fun i j c W => impl26 (N : Int) (K : Int) bs hb i j c W)
  have HFO := hidd (fun (c m : Int) bs' (hb' : Bys bs') W => fos47 N (K : Int) c m bs' hb' W n1 n17)
  have HS2 := hidd (fun bs' (hb' : Bys bs') => size_c26 (N : Int) (K : Int) hb')
  have HZS := hidd size_z26
  obtain ⟨C, hC⟩ : ∃ C, C = (ccells (N : Int) (K : Int) bs).toArray := ⟨_, rfl⟩
  have H71 := hidd (fun W => at71 (N : Int) (K : Int) bs hb C hC W)
  have HIT := hidd (fun bx W (hX : Blk W bx C 28) => iter95 0 N K bx bs hb n17 k4 W (by rw [← hC]; exact hX))
  rw [← hall] at HIT
  rw [← hC] at HS HEN HCE ⊢
  obtain ⟨FA, hFA⟩ : ∃ FA, FA = flt all := ⟨_, rfl⟩
  rw [hfl, ← hFA]
  have HFA2 := hidd hFA
  have HG := hidd (show Blk ((w.alloc (.cells C 28)).alloc (.cells #[.slice (some ⟨bl, off, none⟩) K cap] 25)) w.heap.size C 28 ∧ Blk ((w.alloc (.cells C 28)).alloc (.cells #[.slice (some ⟨bl, off, none⟩) K cap] 25)) (w.heap.size + 1) #[.slice (some ⟨bl, off, none⟩) K cap] 25 ∧ Below w.heap.size w ((w.alloc (.cells C 28)).alloc (.cells #[.slice (some ⟨bl, off, none⟩) K cap] 25)) from
    ⟨(Blk.new _ _ _ _ rfl).alloc _, Blk.new _ _ _ _ (by simp), ((Below.refl w.heap.size w).alloc (Nat.le_refl _) _).alloc (by simp) _⟩)
  have HJ := hidd (fun (W0 W1 : World) (h1 : Blk W0 w.heap.size C 28) (h2 : Blk W0 (w.heap.size + 1) #[.slice (some ⟨bl, off, none⟩) K cap] 25) (h3 : Below w.heap.size w W0) (hb1 : Below W0.heap.size W0 W1) =>
    (show Blk ((W1.alloc (.cells (scl 0 0 zbl none 0 0).toArray 56)).setRow W1.heap.size D) w.heap.size C 28 ∧ Blk ((W1.alloc (.cells (scl 0 0 zbl none 0 0).toArray 56)).setRow W1.heap.size D) (w.heap.size + 1) #[.slice (some ⟨bl, off, none⟩) K cap] 25 ∧ Below w.heap.size w ((W1.alloc (.cells (scl 0 0 zbl none 0 0).toArray 56)).setRow W1.heap.size D) ∧ w.heap.size + 2 ≤ ((W1.alloc (.cells (scl 0 0 zbl none 0 0).toArray 56)).setRow W1.heap.size D).heap.size from by
      have k1 := h1.below hb1 h1.lt
      have k2 := h2.below hb1 h2.lt
      have h4 := k1.lt
      have h5 := k2.lt
      have k3 := h3.trans (hb1.mono h3.size)
      have k4 := (below_setRow (B := W1.heap.size) ((Below.refl W1.heap.size W1).alloc (Nat.le_refl _) (.cells (scl 0 0 zbl none 0 0).toArray 56)) (Nat.le_refl W1.heap.size) D).size
      exact ⟨(k1.alloc _).rowOther _ _ (by omega), (k2.alloc _).rowOther _ _ (by omega), below_setRow (k3.alloc (by omega) _) (by omega) _, by omega⟩))
  obtain ⟨t0, hi2, hz0, hz1, hz3⟩ := info_parts info25
  have HIF := hidd (And.intro hi2 (And.intro hz0 (And.intro hz1 hz3)))
  have c3 := HG.out.2.1.cell (j := 0) (show _ = some (Value.slice (some ⟨bl, off, none⟩) K cap) from rfl)
  clear hs hE h0 hDe hD hl hi hav hsp hcz hflt hfl hall hlen hC hb hFA hi2 hz0 hz1 hz3 hlK
  refine (callsIn_wide (n := 2)).1 (callsIn_of_wp_marks Tryd.func39 rfl trivial ?_ rfl)
  simp only [Tryd.ntmps39, List.size_toArray, List.length_cons, List.length_nil, Nat.reduceAdd, Nat.reduceSub, Array.replicate_succ, Array.replicate_zero, List.push_toArray, List.append_toArray, List.nil_append, List.cons_append]
  gi_wp2_with (refine inLoadRow rfl 28 (.tmp 2) rfl w.heap.size rfl 28 _ _ HG.out.1 Tryd.underlying28 rfl HS.out ?_)
  refine ⟨trivial, (callsIn_wide.2 (HEN.out _ (HSL.out.below HG.out.2.2 (Nat.le_refl _)) (HE.out.below HG.out.2.2 HE.out.lt))).mono ?_⟩
  rintro e w1 ⟨rfl, hb1⟩
  have J := hidd (HJ.out _ w1 HG.out.1 HG.out.2.1 HG.out.2.2 hb1)
  clear hb1 c3
  obtain ⟨W4, hW4⟩ : ∃ W4, W4 = (w1.alloc (.cells (scl 0 0 zbl none 0 0).toArray 56)).setRow w1.heap.size D := ⟨_, rfl⟩
  rw [← hW4] at J
  obtain ⟨W6, hW6⟩ : ∃ W6, W6 = W4.alloc (.cells #[.slice none 0 0] 39) := ⟨_, rfl⟩
  have J6 := hidd (show Blk W6 w.heap.size C 28 ∧ Blk W6 (w.heap.size + 1) #[.slice (some ⟨bl, off, none⟩) K cap] 25 ∧ Below w.heap.size w W6 ∧ Blk W6 W4.heap.size #[.slice none 0 0] 39 ∧ w.heap.size + 2 ≤ W4.heap.size ∧ W6.heap.size = W4.heap.size + 1 from by
    rw [hW6]
    exact ⟨J.out.1.alloc _, J.out.2.1.alloc _, J.out.2.2.1.alloc J.out.2.2.1.size _, Blk.new _ _ _ _ rfl, J.out.2.2.2, by simp⟩)
  gi_wp2_with (first
    | (refine inStoreRow rfl 56 (.tmp 6) (.tmp 19) rfl w1.heap.size _ rfl rfl 56 _ (Blk.new _ _ _ _ rfl) HD.out.1 HD.out.2.1 HD.out.2.2 ?_; rw [← hW4]; clear hW4)
    | (rw [← hW6]; clear hW6; refine inLoadRow rfl 28 (.tmp 2) rfl w.heap.size rfl 28 _ _ J6.out.1 Tryd.underlying28 rfl HS.out ?_))
  refine ⟨trivial, (callsIn_wide.2 (H71.out _)).mono ?_⟩
  rintro e w5 ⟨rfl, kB, hb5⟩
  have H5 := hidd (show Blk w5 W6.heap.size C 28 ∧ w.heap.size + 2 ≤ W4.heap.size ∧ W6.heap.size = W4.heap.size + 1 ∧ W6.heap.size < w5.heap.size from ⟨kB, J6.out.2.2.2.2.1, J6.out.2.2.2.2.2, kB.lt⟩)
  have HR5 := hidd (show ∀ Dx, RelFd w C (.slice (some ⟨bl, off, none⟩) K cap) W4.heap.size Dx (flt []) w5 from fun Dx => by
    rw [HFZ.out]
    exact ⟨J6.out.1.below hb5 J6.out.1.lt, J6.out.2.1.below hb5 J6.out.2.1.lt, ⟨_, J6.out.2.2.2.1.below hb5 J6.out.2.2.2.1.lt, LLW.nil _ _⟩, by simp, J6.out.2.2.1.trans (hb5.mono J6.out.2.2.1.size)⟩)
  have HIT5 := hidd (HIT.out _ w5 kB)
  clear kB hb5
  gi_wp2_with fail
  have HI := hidd (show ∀ Dx, StabD w5.heap.size Dx (fun pre Wx => RelFd w C (.slice (some ⟨bl, off, none⟩) K cap) W4.heap.size Dx (flt pre) Wx) from
    fun Dx pre A A' h hk => by
      have := H5.out
      obtain ⟨v, h1, h2⟩ := h.2.2.1
      exact ⟨hk.blk h.1 (.inl (by omega)), hk.blk h.2.1 (.inl (by omega)), ⟨v, hk.blk h1 (.inl (by omega)), h2.away hk⟩, h.2.2.2.1, below_away h.2.2.2.2 hk (by omega) (Nat.le_refl _)⟩)
  refine range_givesD rfl (enters_of Tryd.func95 (by kernel_rfl) rfl) HIT5.out (fun b hb => by simp only [List.mem_cons, List.not_mem_nil, or_false] at hb; have := H5.out; omega) (fun x B D W args h => by unfold EncT at h; rw [h]; rfl)
    (fun Dx pre Wx => RelFd w C (.slice (some ⟨bl, off, none⟩) K cap) W4.heap.size Dx (flt pre) Wx) (fun _ _ Wx => False)
    HI.out (fun _ _ _ _ _ _ h => h.elim) (fun Dx => HR5.out Dx)
    (fun x Dx a' Wx => ∃ b, a' = { tmps := #[.agg C, .slice (some ⟨bl, off, none⟩) K cap, .pointer (some ⟨w.heap.size, 0, none⟩), .pointer (some ⟨w.heap.size + 1, 0, none⟩), .slice none 0 0, .int .i64 0, .pointer (some ⟨w1.heap.size, 0, none⟩), .int .i64 0, .pointer (some ⟨W4.heap.size, 0, none⟩), .pointer (some ⟨b, 0, none⟩), undef, undef, undef, undef, undef, .tuple #[.agg D, .int .i64 0], .agg C, .slice (some ⟨bl, off, none⟩) K cap, .tuple #[.agg D, .int .i64 0], .agg D, .int .i64 0, .int .i64 0, .bool false, undef, .agg C, .func (.func 95) #[] #[.pointer (some ⟨W6.heap.size, 0, none⟩)], .agg #[.int .i64 (x.1 : Int), .int .i64 (x.2.1 : Int), .int .i64 (x.2.2 : Int)], undef, undef, undef, undef, undef, undef, undef, undef, undef, undef, undef, undef, undef, undef, undef, undef, undef, undef, undef, undef, undef, undef, undef, undef, undef, undef, undef, undef, undef, undef], defers := [] } ∧ Blk Wx b (tcl3 x) 85)
    (fun x Dx a' A l o o' ⟨b, h1, h2⟩ ho hc => ⟨b, h1, blk_put h2 ho hc o'⟩) ?assign ?body ?done ?stop
  case assign =>
    rintro l' Dx B pre x rest args Wx Kx' hall hI hB1 hB2 hB3 hEnc hK
    unfold EncT at hEnc
    subst hEnc
    have HK := hidd hK
    have HW := hidd (show Below Wx.heap.size Wx (Wx.alloc (.cells (tcl3 x) 85)) ∧ Blk (Wx.alloc (.cells (tcl3 x) 85)) Wx.heap.size (tcl3 x) 85 from ⟨(Below.refl _ _).alloc (Nat.le_refl _) _, Blk.new _ _ _ _ rfl⟩)
    clear hK hI hall
    gi_wp2_with fail
    refine HK.out _ _ HW.out.1 ⟨Wx.heap.size, ?_, HW.out.2⟩
    first | rfl | kernel_rfl
  case body =>
    rintro l Dx pre x rest a' Wx hall hD1 hD2 hI ⟨b, rfl, hb⟩
    obtain ⟨x1, x2, x3, hcode, hbys, hfo⟩ := HX.out x (by rw [hall]; simp) pre
    have HLX := hidd (HLE.out pre x rest hall)
    obtain ⟨hI1, hI2, ⟨v, hv1, hv2⟩, hI4, hI5⟩ := hI
    obtain ⟨a8, c8, rfl⟩ := hv2.shape
    obtain ⟨L, hL⟩ : ∃ L, L = flt pre := ⟨_, rfl⟩
    rw [← hL] at hv1 hv2 hI4 hfo
    obtain ⟨l8, hl8⟩ : ∃ l8, l8 = L.length := ⟨_, rfl⟩
    rw [← hl8] at hv1 hv2 hI4
    have HL8 := hidd hl8
    have HLE8 := hidd hI4
    have HG := hidd (show Blk Wx w.heap.size C 28 ∧ Blk Wx (w.heap.size + 1) #[.slice (some ⟨bl, off, none⟩) K cap] 25 ∧ Blk Wx W4.heap.size #[.slice a8 l8 c8] 39 ∧ LLW Wx Dx (.slice a8 l8 c8) L ∧ Below w.heap.size w Wx ∧ Blk Wx b (tcl3 x) 85 from ⟨hI1, hI2, hv1, hv2, hI5, hb⟩)
    have HDD := hidd (show w5.heap.size ≤ Dx ∧ Dx ≤ Wx.heap.size from ⟨hD1, hD2⟩)
    -- everything stays below a later world
    have HST := hidd (fun W' (h : Below Wx.heap.size Wx W') => (show Blk W' w.heap.size C 28 ∧ Blk W' (w.heap.size + 1) #[.slice (some ⟨bl, off, none⟩) K cap] 25 ∧ Blk W' W4.heap.size #[.slice a8 l8 c8] 39 ∧ LLW W' Dx (.slice a8 l8 c8) L ∧ Below w.heap.size w W' ∧ Blk W' b (tcl3 x) 85 from
      ⟨HG.out.1.below h HG.out.1.lt, HG.out.2.1.below h HG.out.2.1.lt, HG.out.2.2.1.below h HG.out.2.2.1.lt, HG.out.2.2.2.1.below h (Nat.le_refl _), HG.out.2.2.2.2.1.trans (h.mono HG.out.2.2.2.2.1.size), HG.out.2.2.2.2.2.below h HG.out.2.2.2.2.2.lt⟩))
    have HTX := hidd (fun W' (h : Blk W' b (tcl3 x) 85) => (show W'.cell? ⟨b, 0, none⟩ = some (.int .i64 (x.1 : Int)) ∧ W'.cell? ⟨b, 1, none⟩ = some (.int .i64 (x.2.1 : Int)) ∧ W'.cell? ⟨b, 2, none⟩ = some (.int .i64 (x.2.2 : Int)) from
      ⟨h.cell (j := 0) rfl, h.cell (j := 1) rfl, h.cell (j := 2) rfl⟩))
    have HEND := hidd (fun W' (h : Below Wx.heap.size Wx W') => (show KxD [W6.heap.size] w5.heap.size Dx Wx W' from KxD.of_below h))
    obtain ⟨i, hi⟩ : ∃ i, i = x.1 := ⟨_, rfl⟩
    obtain ⟨j, hj⟩ : ∃ j, j = x.2.1 := ⟨_, rfl⟩
    obtain ⟨c, hc⟩ : ∃ c, c = x.2.2 := ⟨_, rfl⟩
    have HXX := hidd (show x = (i, j, c) from by rw [hi, hj, hc])
    rw [← hi, ← hj, ← hc] at HTX ⊢
    rw [← hi, ← hj, ← hc] at hcode hbys hfo
    rw [← hc] at x3
    obtain ⟨bs', hbs'⟩ : ∃ bs', bs' = setAt bs (i : Int) (j : Int) (c : Int) := ⟨_, rfl⟩
    have hch : chOut (N : Int) (K : Int) bs (i : Int) (j : Int) (c : Int) = .tuple #[.agg (ccells (N : Int) (K : Int) bs').toArray, .int .i64 0] := by rw [chOut_good hcode, ← hbs']
    have HC72 := hidd (fun W => HCE.out (i : Int) (j : Int) (c : Int) W)
    rw [hch] at HC72
    rw [← hbs'] at hbys hfo
    obtain ⟨z, hz⟩ : ∃ z, z = zs.getD c 0 := ⟨_, rfl⟩
    rw [← hz] at hfo
    have HZ := hidd (fun W' (h : Below Wx.heap.size Wx W') => (show W'.cell? ⟨bl, off + c, none⟩ = some (.int .i64 z) from by rw [hz]; exact HCZ.out W' (HG.out.2.2.2.2.1.trans (h.mono HG.out.2.2.2.2.1.size)) c x3))
    have HF := hidd (fun W => HFO.out (c : Int) z bs' hbys W)
    obtain ⟨X, hX⟩ : ∃ X, X = fosX (nsF bs' (c : Int) (eseq N)) N z := ⟨_, rfl⟩
    rw [← hX] at HF
    obtain ⟨hf0, hf1⟩ := hfo X hX
    have HF0 := hidd hf0
    have HF1 := hidd hf1
    obtain ⟨E, hE⟩ : ∃ E, E = (ccells (N : Int) (K : Int) bs').toArray := ⟨_, rfl⟩
    have HSE := hidd (show (Tryd.prog.info? 28).map (·.size) = some E.size ∧ (ccells 0 0 zbl).toArray.size = E.size ∧ E.all (·.oneCell') = true from by
      rw [hE]; exact ⟨HS2.out bs' hbys, by rw [Option.some.inj (HZS.out.symm.trans (HS2.out bs' hbys))], ccells_one _ _ _⟩)
    rw [← hE] at HC72 HF
    have hcK : (c : Int) < (K : Int) := by omega
    clear hI1 hI2 hv1 hv2 hI4 hI5 hb hall hL hl8 hD1 hD2 hi hj hc hcode hbys hbs' hch hz hX hE hf0 hf1 hfo x1 x2
    gi_wp2_with fail
    refine wpIn_region_tail_lit (lets_round l _) 8 (fun w' => Below Wx.heap.size Wx w') (by decide) (by kernel_rfl) ((Below.refl _ _).drew) (by kernel_rfl) (by kernel_rfl) (by kernel_rfl) (by kernel_rfl) (by kernel_rfl) ?_
    simp only [List.take_succ_cons, List.take_zero, List.drop_succ_cons, List.drop_zero, List.map_cons, List.map_nil, List.cons_append, List.nil_append, idle]
    refine qs rfl (fun KQ hKQ => ?_)
    apply Exists.intro
    refine ⟨fun w' hw' => ?_, ?_⟩
    · go_simp; exact rfl
    go_simp
    refine hKQ _ ?_
    clear hKQ KQ
    refine qs rfl (fun KQ hKQ => ?_)
    apply Exists.intro
    refine ⟨fun w' hw' => ?_, ?_⟩
    · have e1 := (HTX.out w' (HST.out w' hw').2.2.2.2.2).1; go_simp; exact rfl
    go_simp
    refine hKQ _ ?_
    clear hKQ KQ
    refine qs rfl (fun KQ hKQ => ?_)
    apply Exists.intro
    refine ⟨fun w' hw' => ?_, ?_⟩
    · go_simp; exact rfl
    go_simp
    refine hKQ _ ?_
    clear hKQ KQ
    refine qs rfl (fun KQ hKQ => ?_)
    apply Exists.intro
    refine ⟨fun w' hw' => ?_, ?_⟩
    · have e1 := (HTX.out w' (HST.out w' hw').2.2.2.2.2).2.1; go_simp; exact rfl
    go_simp
    refine hKQ _ ?_
    clear hKQ KQ
    refine qs rfl (fun KQ hKQ => ?_)
    apply Exists.intro
    refine ⟨fun w' hw' => ?_, ?_⟩
    · go_simp; exact rfl
    go_simp
    refine hKQ _ ?_
    clear hKQ KQ
    refine qs rfl (fun KQ hKQ => ?_)
    apply Exists.intro
    refine ⟨fun w' hw' => ?_, ?_⟩
    · have e1 := (HTX.out w' (HST.out w' hw').2.2.2.2.2).2.2; go_simp; exact rfl
    go_simp
    refine hKQ _ ?_
    clear hKQ KQ
    refine qs rfl (fun KQ hKQ => ?_)
    apply Exists.intro
    refine ⟨fun w' hw' => ?_, ?_⟩
    · go_simp; exact rfl
    go_simp
    refine hKQ _ ?_
    clear hKQ KQ
    refine qs rfl (fun KQ hKQ => ?_)
    apply Exists.intro
    refine ⟨fun w' hw' => ?_, ?_⟩
    · go_simp; exact rfl
    go_simp
    refine hKQ _ ?_
    clear hKQ KQ
    refine qs rfl (fun KQ hKQ => ?_)
    apply Exists.intro
    refine ⟨fun w' hw' => ?_, ?_⟩
    · go_simp; exact rfl
    go_simp
    refine hKQ _ ?_
    clear hKQ KQ
    refine wpQuiet_nil ?_
    intro w' hw'
    have HW7 := hidd hw'
    clear hw'
    gi_wp2_with (refine inLoadRow rfl 28 (.tmp 2) rfl w.heap.size rfl 28 _ _ (HST.out _ HW7.out).1 Tryd.underlying28 rfl HS.out ?_)
    refine ⟨trivial, rfl, (CallsIn.inRound _ (callsIn_wide.2 (HC72.out _))).mono ?_⟩
    rintro e w8 ⟨rfl, hb8⟩
    have H8 := hidd (HW7.out.trans (hb8.mono HW7.out.size))
    clear hb8
    obtain ⟨W9, hW9⟩ : ∃ W9, W9 = (w8.alloc (.cells (ccells 0 0 zbl).toArray 28)).setRow w8.heap.size E := ⟨_, rfl⟩
    have H9 := hidd (show Below Wx.heap.size Wx W9 ∧ Blk W9 w8.heap.size E 28 from by
      rw [hW9]
      exact ⟨below_setRow (H8.out.alloc H8.out.size _) H8.out.size _, (Blk.new _ _ _ _ rfl).rowSame _⟩)
    gi_wp2_with (refine inStoreRow rfl 28 (.tmp 13) (.tmp 39) rfl w8.heap.size _ rfl rfl 28 _ (Blk.new _ _ _ _ rfl) HSE.out.1 HSE.out.2.1 HSE.out.2.2 ?_; rw [← hW9]; clear hW9)
    refine wpIn_region_tail_lit (lets_round l _) 7 (fun w' => Below W9.heap.size W9 w') (by decide) (by kernel_rfl) ((Below.refl _ _).drew) (by kernel_rfl) (by kernel_rfl) (by kernel_rfl) (by kernel_rfl) (by kernel_rfl) ?_
    simp only [List.take_succ_cons, List.take_zero, List.drop_succ_cons, List.drop_zero, List.map_cons, List.map_nil, List.cons_append, List.nil_append, idle]
    refine qs rfl (fun KQ hKQ => ?_)
    apply Exists.intro
    refine ⟨fun w' hw' => ?_, ?_⟩
    · exact quietRow 28 (.tmp 13) rfl w8.heap.size rfl 28 _ _ (H9.out.2.below hw' H9.out.2.lt) Tryd.underlying28 rfl HSE.out.1
    go_simp
    refine hKQ _ ?_
    clear hKQ KQ
    refine qs rfl (fun KQ hKQ => ?_)
    apply Exists.intro
    refine ⟨fun w' hw' => ?_, ?_⟩
    · go_simp; exact rfl
    go_simp
    refine hKQ _ ?_
    clear hKQ KQ
    refine qs rfl (fun KQ hKQ => ?_)
    apply Exists.intro
    refine ⟨fun w' hw' => ?_, ?_⟩
    · have e1 := (HST.out w' (H9.out.1.trans (hw'.mono H9.out.1.size))).2.1.cell (j := 0) (show _ = some (Value.slice (some ⟨bl, off, none⟩) K cap) from rfl); go_simp; exact rfl
    go_simp
    refine hKQ _ ?_
    clear hKQ KQ
    refine qs rfl (fun KQ hKQ => ?_)
    apply Exists.intro
    refine ⟨fun w' hw' => ?_, ?_⟩
    · go_simp; exact rfl
    go_simp
    refine hKQ _ ?_
    clear hKQ KQ
    refine qs rfl (fun KQ hKQ => ?_)
    apply Exists.intro
    refine ⟨fun w' hw' => ?_, ?_⟩
    · go_simp; exact rfl
    go_simp
    refine hKQ _ ?_
    clear hKQ KQ
    refine qs rfl (fun KQ hKQ => ?_)
    apply Exists.intro
    refine ⟨fun w' hw' => ?_, ?_⟩
    · have e1 := HZ.out w' (H9.out.1.trans (hw'.mono H9.out.1.size)); go_simp; exact rfl
    go_simp
    refine hKQ _ ?_
    clear hKQ KQ
    refine qs rfl (fun KQ hKQ => ?_)
    apply Exists.intro
    refine ⟨fun w' hw' => ?_, ?_⟩
    · go_simp; exact (HF.out _).mono fun _ _ h => ⟨h.1, hw'.trans (h.2.mono hw'.size)⟩
    go_simp
    refine hKQ _ ?_
    clear hKQ KQ
    refine qs rfl (fun KQ hKQ => ?_)
    apply Exists.intro
    refine ⟨fun w' hw' => ?_, ?_⟩
    · go_simp; exact rfl
    go_simp
    refine hKQ _ ?_
    clear hKQ KQ
    refine wpQuiet_nil ?_
    intro w' hw'
    have HWA := hidd (H9.out.1.trans (hw'.mono H9.out.1.size))
    clear hw'
    cases hx0 : ((X : Int) == 0) with
    | false =>
      have HN := hidd (HF1.out (fun e => by rw [e] at hx0; cases hx0))
      have HFIN := hidd (show RelFd w C (.slice (some ⟨bl, off, none⟩) K cap) W4.heap.size Dx (flt (pre ++ [x])) w' from by
        have h := HST.out _ HWA.out
        rw [HN.out]
        exact ⟨h.1, h.2.1, ⟨_, h.2.2.1, h.2.2.2.1⟩, by rw [← HN.out]; exact HLX.out, h.2.2.2.2.1⟩)
      have HKX := hidd (HEND.out _ HWA.out)
      gi_wp2_with fail
      exact ⟨HKX.out, HFIN.out⟩
    | true =>
      have HN := hidd (HF0.out (by have := beq_iff_eq.1 hx0; omega))
      obtain ⟨h1, h2, h3, h4, h5, h6⟩ := HST.out _ HWA.out
      have e8 := h3.cell (j := 0) (show _ = some (Value.slice a8 l8 c8) from rfl)
      obtain ⟨Xw, hXw⟩ : ∃ Xw, Xw = w'.alloc (.cells #[.int .i64 (i : Int), .int .i64 (j : Int), .int .i64 (c : Int)] 2) := ⟨_, rfl⟩
      have HXB := hidd (show Below w'.heap.size w' Xw ∧ OwnL Xw w'.heap.size (some ⟨w'.heap.size, 0, none⟩) (trL x) from by
        rw [hXw, HXX.out]; exact ⟨(Below.refl _ _).alloc (Nat.le_refl _) _, own_tr2⟩)
      obtain ⟨AA, hA1, hA2, hA3⟩ := h4
      have hown0 := own_below (own_below hA1 HXB.out.1 (Nat.le_refl _)) ((Below.refl Xw.heap.size Xw).alloc (Nat.le_refl _) (.cells #[.slice (some ⟨w'.heap.size, 0, none⟩) 3 3] 25)) (Nat.le_refl _)
      have HAA := hidd (And.intro hA2 hA3)
      have HO := hidd hown0
      have H4 := hidd (show LLW w' Dx (.slice a8 l8 c8) L from ⟨AA, hA1, hA2, hA3⟩)
      have HB3 := hidd h3
      have hsX := HXB.out.1.size
      have hsW := HWA.out.size
      have hXsz : Xw.heap.size = w'.heap.size + 1 := by rw [hXw]; simp
      have HON := hidd (show ∀ j u, [Value.slice (some ⟨w'.heap.size, 0, none⟩) 3 3][j]? = some u → (Xw.alloc (.cells #[.slice (some ⟨w'.heap.size, 0, none⟩) 3 3] 25)).cell? ((⟨w'.heap.size + 1, 0, none⟩ : Addr).add j) = some u from by rw [← hXsz]; exact one_new _ _ _)
      have hl8 : L.length ≤ 1000 := by rw [← HL8.out]; exact HLE8.out
      have e8b := ((h3.alloc (.cells #[.int .i64 (i : Int), .int .i64 (j : Int), .int .i64 (c : Int)] 2)).alloc (.cells #[.slice (some ⟨w'.heap.size, 0, none⟩) 3 3] 25)).cell (j := 0) (show _ = some (Value.slice a8 l8 c8) from rfl)
      clear hA1 hA2 hA3 hown0 hXsz h1 h2 h3 h5 h6
      gi_wp2_with (gi_at_builtin; rw [← hXw]; refine wpListIn_append_own _ rfl _ _ 39 rfl Dx 25 t0 (.slice none 0 0) 1 24 Tryd.underlying39 HIF.out.1 HIF.out.2.1 HIF.out.2.2.1 HIF.out.2.2.2 rfl (by decide) _ _ _ rfl HO.out ⟨w'.heap.size + 1, 0, none⟩ 1 1 [.slice (some ⟨w'.heap.size, 0, none⟩) 3 3] rfl ?c1 ?c2 ?c3 ?c4 ?c5 ?c6 ?_)
      case c1 => rfl
      case c2 => exact HON.out
      case c3 => intro u hu; simp at hu; subst hu; rfl
      case c4 => unfold maxLen; omega
      case c5 => omega
      case c6 => have := HDD.out; simp; omega
      intro v' Y hown' hgrow _
      rw [← hXw] at hgrow
      have hbXa : Below w'.heap.size w' (Xw.alloc (.cells #[.slice (some ⟨w'.heap.size, 0, none⟩) 3 3] 25)) := HXB.out.1.alloc hsX _
      have hbY : Below Dx (Xw.alloc (.cells #[.slice (some ⟨w'.heap.size, 0, none⟩) 3 3] 25)) Y := grown_plain HO.out hgrow (by have := HDD.out; simp; omega)
      have hlt0 : W4.heap.size < Dx := by have := H5.out; have := HDD.out; omega
      have hbW : Below Wx.heap.size Wx (Xw.alloc (.cells #[.slice (some ⟨w'.heap.size, 0, none⟩) 3 3] 25)) := HWA.out.trans (hbXa.mono hsW)
      obtain ⟨q1, q2, q3, q4, q5, q6⟩ := HST.out _ hbW
      have hB39 : Blk Y W4.heap.size #[.slice a8 l8 c8] 39 := q3.below hbY hlt0
      have hLY : LLW Y Dx v' (L ++ [trL x]) := LLW.push H4.out (by have := HDD.out; omega) HXB.out.1 HXB.out.2 hgrow HAA.out hown'
      obtain ⟨a9, c9, rfl⟩ := hLY.shape
      obtain ⟨l9, hl9⟩ : ∃ l9, l9 = (L ++ [trL x]).length := ⟨_, rfl⟩
      rw [← hl9] at hLY ⊢
      have K1 := hidd (show RelFd w C (.slice (some ⟨bl, off, none⟩) K cap) W4.heap.size Dx (flt (pre ++ [x])) (Y.setCell ⟨W4.heap.size, 0, none⟩ (.slice a9 l9 c9)) from by
        have hh := H5.out
        have hd := HDD.out
        refine ⟨(q1.below hbY (by omega)).other _ _ (by show w.heap.size ≠ W4.heap.size; omega), (q2.below hbY (by omega)).other _ _ (by show w.heap.size + 1 ≠ W4.heap.size; omega), ?_, HLX.out, ?_⟩
        · rw [HN.out]; exact ⟨.slice a9 l9 c9, hB39.same 0 _, hLY.set _ _ hlt0⟩
        · exact (q5.trans (hbY.mono (by omega))).setCell (by show w.heap.size ≤ W4.heap.size; omega) _)
      have KK := hidd (show KxD [W6.heap.size] w5.heap.size Dx Wx (Y.setCell ⟨W4.heap.size, 0, none⟩ (.slice a9 l9 c9)) from by
        have hsY := hbY.size
        have hsB := hbW.size
        refine ⟨by simp [World.setCell]; omega, fun k hk hb => ?_⟩
        have hne : k ≠ W4.heap.size ∧ k < Dx := by
          have := H5.out
          have := HDD.out
          rcases hb with hb | hb
          · omega
          · simp only [List.mem_cons, List.not_mem_nil, or_false] at hb; omega
        rw [heap_setCell_other _ _ _ _ (by exact hne.1), hbY.block k hne.2, hbW.block k hk])
      have e8c := hB39.cell (j := 0) (show _ = some (Value.slice a8 l8 c8) from rfl)
      have f8 := hB39.fro 0
      clear hbXa hbY hB39 hLY hbW q1 q2 q3 q4 q5 q6 hown' hgrow hl9 hXw e8 e8b
      gi_wp2_with fail
      exact ⟨KK.out, K1.out⟩
  case done =>
    rintro Dd Dx Wx hD0 hD1 hD2 ⟨hI1, hI2, ⟨v, hv1, hv2⟩, hI4, hI5⟩ hdef
    obtain ⟨aL, cL, rfl⟩ := hv2.shape
    rw [← HFA2.out] at hv1 hv2
    obtain ⟨lL, hlL⟩ : ∃ lL, lL = FA.length := ⟨_, rfl⟩
    rw [← hlL] at hv1 hv2
    have HLL := hidd hlL
    have c8 := hv1.cell (j := 0) (show _ = some (Value.slice aL lL cL) from rfl)
    have KL := hidd (And.intro hv2 hI5)
    have hM := hidd hdef
    have HS5 := hidd (show w.heap.size ≤ w5.heap.size from by have := H5.out; omega)
    clear hI1 hI2 hv1 hv2 hI4 hI5 hdef hlL
    gi_wp2_with fail
    refine leave_marks (B := w5.heap.size) (v := .tuple #[.slice aL lL cL, .int .i64 0]) [Dd] _ ((Mks.nil _ _).cons hD0 (by simp) hM.out) (fun W' hb hck => ?_)
    refine ⟨by simp [results, Tryd.results39, go_sem], ?_⟩
    have hLK : LLW W' Dx (.slice aL lL cL) FA := by
      obtain ⟨X, ⟨hl, h1⟩, h2, h3⟩ := KL.out.1
      refine ⟨X, ⟨hl, ?_⟩, fun j hj => ?_, h3⟩
      · rcases h1 with h1 | ⟨g, cap, cur, hv, hg, hc, r⟩
        · exact .inl h1
        · exact .inr ⟨g, cap, cur, hv, hg, hck g _ _ _ hc, r⟩
      · rcases h2 j hj with h | ⟨g, C', k1, k2, k3, k4⟩
        · exact .inl h
        · exact .inr ⟨g, C', k1, k2, hck g _ _ _ k3, k4⟩
    obtain ⟨a, cap', hv, hO⟩ := hLK.out
    rw [← HLL.out] at hv
    cases hv
    exact ⟨aL, cL, by rw [← HLL.out], hO.base (show w.heap.size ≤ Dx by have := HS5.out; omega), KL.out.2.trans (hb.mono HS5.out)⟩
  case stop => intro Dd Dx pre x rest Wx hD0 hD1 hD2 hall h; exact h.elim
/-- The program, at every argument. -/
theorem impl39 (n k : Int) (bs : List Nat) (hb : Bys bs) (zs : List Int) (a : Option Addr) (cap : Nat) (e0 : Addr) (w : World) (hs : SlI w a zs) (hl : zs.length ≤ 1048576) (hE : Er w e0) :
    Calls Tryd.prog 39 #[.agg (ccells n k bs).toArray, .slice a zs.length cap] w fun e w' => LLOut w (fcV n k bs zs) (eaC 17 n k bs zs) e w' := by
  by_cases h0 : eaC 17 n k bs zs = 0
  · obtain ⟨hsz, hav, hn12⟩ := eaC_ok h0
    obtain ⟨hi, ho⟩ := szCode_ok hsz
    obtain ⟨n1, n2, k1, k2⟩ := isCol_bd hi
    obtain ⟨hlk, hsp⟩ := szOk_bd ho
    obtain ⟨N, rfl⟩ := Int.eq_ofNat_of_zero_le (show 0 ≤ n by omega)
    obtain ⟨K, rfl⟩ := Int.eq_ofNat_of_zero_le (show 0 ≤ k by omega)
    have hlK : zs.length = K := by omega
    rw [hlK] at hsp
    obtain ⟨bl, off, rfl, hbl⟩ := sl_some hs (by omega)
    have := impl39_good N K bs hb zs bl off cap e0 w hs hl hE h0 hlK (by omega) (by omega) (by omega) (by omega) hi hav hsp hbl
    rw [fcV_good h0, hlK, h0]
    exact this
  · rw [fcV_bad h0]
    exact impl39_bad n k bs hb zs a cap e0 w hs hl hE h0
end Go.Proofs.YtckffliiidgilaaDoor
