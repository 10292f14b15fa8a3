/- RenumberPoints: the program. -/
import Derived.Test.YtpjegmmichjlbaaRenSp
import Derived.Test.YtpjegmmichjlbaaTailIn
namespace Go.Proofs.Ytpjegmmichjlbaa
set_option linter.unusedVariables false
set_option linter.unusedSimpArgs false
open Go Go.RowKit Go.Shelf
attribute [local go_sem] Oper.semAt_some
def RelRe {N : Nat} (k : Int) (bs : List Nat) (zs : List Int) (a : Option Addr) (cap : Nat) (g : Nat) (w : World) (pre : List (Edg N)) (W : World) : Prop :=
  Blk W w.heap.size (ccells (N : Int) k bs).toArray 29 ∧ Blk W (w.heap.size + 1) #[.slice a zs.length cap] 38 ∧ Blk W (w.heap.size + 1 + 1) (ccells 0 0 zbl).toArray 29 ∧ Blk W g (ccells (N : Int) k ((pre.map Edg.v).foldl (rnF zs bs) zbl)).toArray 29 ∧ Below w.heap.size w W
set_option maxRecDepth 100000 in
set_option maxHeartbeats 4000000 in
theorem impl32r (n k : Int) (bs : List Nat) (hb : Bys bs) (zs : List Int) (a : Option Addr) (cap : Nat) (w : World) (hs : SlI w a zs) (hl : zs.length ≤ 9223372036854775807) :
    Calls Try.prog 32 #[.agg (ccells n k bs).toArray, .slice a zs.length cap] w fun e w' => e = .returned (rnOut n k bs zs) ∧ Below w.heap.size w w' := by
  have HS := hidd (size_c26 n k hb)
  have Hz := zero26
  have HZS := hidd size_z26
  have HZ1 := hidd (ccells_one 0 0 zbl)
  have HC0 := hidd (show (ccells n k bs).toArray[0]? = some (.int .i64 n) from rfl)
  have HC1 := hidd (show (ccells n k bs).toArray[1]? = some (.int .i64 k) from rfl)
  have hmk : ∀ w0, w0 = ((w.alloc (.cells (ccells n k bs).toArray 29)).alloc (.cells #[.slice a zs.length cap] 38)).alloc (.cells (ccells 0 0 zbl).toArray 29) → ∀ w1, Below w0.heap.size w0 w1 →
      Blk w1 w.heap.size (ccells n k bs).toArray 29 ∧ Blk w1 (w.heap.size + 1) #[.slice a zs.length cap] 38 ∧ Blk w1 (w.heap.size + 1 + 1) (ccells 0 0 zbl).toArray 29 ∧ SlI w1 a zs ∧ Below w.heap.size w w1 := by
    rintro w0 rfl w1 hb1
    have hb := (((Below.refl w.heap.size w).alloc (Nat.le_refl _) (.cells (ccells n k bs).toArray 29)).alloc (by simp) (.cells #[.slice a zs.length cap] 38)).alloc (by simp; omega) (.cells (ccells 0 0 zbl).toArray 29)
    have hbl := hb.trans (hb1.mono (by simp; omega))
    exact ⟨(((Blk.new _ _ _ _ rfl).alloc _).alloc _).below hb1 (by simp; omega), ((Blk.new _ _ _ _ (by simp)).alloc _).below hb1 (by simp), (Blk.new _ _ _ _ (by simp)).below hb1 (by simp), hs.below hbl (Nat.le_refl _), hbl⟩
  have HMK := hidd hmk
  have HSL := hidd hs
  clear hmk hs
  cases hi : isCol n k bs with
  | false =>
    have H := hidd (rnOut_bad (rnCode_1 (zs := zs) hi) (by omega))
    have HI := hidd hi
    clear hi
    go_enter Try.func32, Try.ntmps32
    go_wp2_with (refine wpList_load_row rfl 29 (.tmp 2) rfl w.heap.size rfl 29 _ (0,0) _ (((Blk.new _ _ _ _ rfl).alloc _).alloc _) Try.underlying29 rfl HS.out ?_)
    refine (implIs_any n k bs hb _).mono ?_
    rintro e w1 ⟨rfl, hb1⟩
    rw [HI.out]
    have G := hidd (HMK.out _ rfl _ hb1)
    have R := hidd (And.intro G.out.2.2.1 (And.intro (G.out.2.2.1.rowSame (ccells 0 0 zbl).toArray) (below_setRow G.out.2.2.2.2 (g := w.heap.size + 1 + 1) (by omega) (ccells 0 0 zbl).toArray)))
    clear hb1
    go_wp2_with (first
      | (refine wpList_zero26 rfl rfl ?_)
      | (refine wpList_store_row rfl 29 (.tmp 4) (.tmp 12) rfl (w.heap.size + 1 + 1) _ rfl rfl 29 _ R.out.1 HZS.out rfl HZ1.out ?_))
    exact ret_col rfl zbl_bys rfl R.out.2.1 rfl rfl ⟨by rw [H.out]; rfl, R.out.2.2⟩
  | true =>
    have HI := hidd hi
    obtain ⟨n1, n2, k1, k2⟩ := isCol_bd hi
    cases ho : ordB zs n with
    | false =>
      have H := hidd (rnOut_bad (rnCode_2 hi ho) (by omega))
      have HO := hidd ho
      clear hi ho
      go_enter Try.func32, Try.ntmps32
      go_wp2_with (refine wpList_load_row rfl 29 (.tmp 2) rfl w.heap.size rfl 29 _ (0,0) _ (((Blk.new _ _ _ _ rfl).alloc _).alloc _) Try.underlying29 rfl HS.out ?_)
      refine (implIs_any n k bs hb _).mono ?_
      rintro e w1 ⟨rfl, hb1⟩
      rw [HI.out]
      have G := hidd (HMK.out _ rfl _ hb1)
      have c5 := G.out.2.1.cell (j := 0) (show _ = some (Value.slice a zs.length cap) from rfl)
      have c1 := G.out.1.cell HC0.out
      clear hb1
      go_wp2_with fail
      refine (order65 zs a cap n _ G.out.2.2.2.1 hl n1 n2).mono ?_
      rintro e w2 ⟨rfl, hb2⟩
      rw [HO.out]
      have z2 := G.out.2.2.1.below hb2 G.out.2.2.1.lt
      have b2 := G.out.2.2.2.2.trans (hb2.mono G.out.2.2.2.2.size)
      have R := hidd (And.intro z2 (And.intro (z2.rowSame (ccells 0 0 zbl).toArray) (below_setRow b2 (g := w.heap.size + 1 + 1) (by omega) (ccells 0 0 zbl).toArray)))
      clear hb2 z2 b2 c5 c1
      go_wp2_with (first
        | (refine wpList_zero26 rfl rfl ?_)
        | (refine wpList_store_row rfl 29 (.tmp 4) (.tmp 18) rfl (w.heap.size + 1 + 1) _ rfl rfl 29 _ R.out.1 HZS.out rfl HZ1.out ?_))
      exact ret_col rfl zbl_bys rfl R.out.2.1 rfl rfl ⟨by rw [H.out]; rfl, R.out.2.2⟩
    | true =>
      have H := hidd (rnOut_good (rnCode_0 hi ho))
      have HO := hidd ho
      obtain ⟨N, rfl⟩ := Int.eq_ofNat_of_zero_le (show 0 ≤ n by omega)
      rw [Int.toNat_natCast] at H
      have N1 : 1 ≤ N := by omega
      have N2 : N ≤ 17 := by omega
      have HLN := hidd (show zs.length = N by have := (ord_len ho).1; omega)
      have HNS := hidd (size_c26 (N : Int) k zbl_bys)
      have HNO := hidd (size_cc 0 0 (N : Int) k zbl_bys zbl_bys)
      have HNA := hidd (ccells_one (N : Int) k zbl)
      clear hi ho
      have hfn : ∀ f, Fence.wide.fn f := fun _ => trivial
      refine (callsIn_wide (n := 8)).1 (callsIn_of_wp_marks Try.func32 rfl trivial ?_ rfl)
      simp only [Try.ntmps32, List.size_toArray, List.length_cons, List.length_nil, Nat.reduceAdd, Nat.reduceSub, Array.replicate_succ, Array.replicate_zero, List.push_toArray, List.append_toArray, List.nil_append, List.cons_append]
      gi_wp2_with (refine inLoadRow rfl 29 (.tmp 2) rfl w.heap.size rfl 29 _ _ (((Blk.new _ _ _ _ rfl).alloc _).alloc _) Try.underlying29 rfl HS.out ?_)
      refine (callsIn_wide.2 (implIs_any (N : Int) k bs hb _)).mono ?_
      rintro e w1 ⟨rfl, hb1⟩
      rw [HI.out]
      have G := hidd (HMK.out _ rfl _ hb1)
      have c5 := G.out.2.1.cell (j := 0) (show _ = some (Value.slice a zs.length cap) from rfl)
      have c0 := G.out.1.cell HC0.out
      clear hb1
      gi_wp2_with fail
      refine (callsIn_wide.2 (order65 zs a cap (N : Int) _ G.out.2.2.2.1 hl n1 n2)).mono ?_
      rintro e w2 ⟨rfl, hb2⟩
      rw [HO.out]
      have G2 := hidd (And.intro (G.out.1.below hb2 G.out.1.lt) (And.intro (G.out.2.1.below hb2 G.out.2.1.lt) (And.intro (G.out.2.2.1.below hb2 G.out.2.2.1.lt) (And.intro (G.out.2.2.2.1.below hb2 (Nat.le_refl _)) (G.out.2.2.2.2.trans (hb2.mono G.out.2.2.2.2.size))))))
      clear hb2 c5 c0
      have c0 := G2.out.1.cell HC0.out
      have c1 := G2.out.1.cell HC1.out
      have hz2 := G2.out.2.2.1.lt
      have hset : ((ccells 0 0 zbl).set 0 (Value.int .i64 (N : Int))).set 1 (Value.int .i64 k) = ccells (N : Int) k zbl := rfl
      have hcy := ((G2.out.1.alloc (Obj.cells (ccells 0 0 zbl).toArray 29)).rowOther w2.heap.size (ccells (N : Int) k zbl).toArray (by omega)).cell HC0.out
      gi_wp2_with (first
        | (refine inBuild rfl 29 _ rfl _ (built26nk (N : Int) k) ?_)
        | (refine inStoreRow rfl 29 (.tmp 6) (.tmp 23) rfl w2.heap.size _ rfl rfl 29 _ (Blk.new _ _ _ _ rfl) HNS.out HNO.out HNA.out ?_)
        | (gi_at_call 66; refine (callsIn_wide.2 (edges66 _ _)).mono ?_; rintro e w' ⟨rfl, rfl⟩))
      obtain ⟨W0, hW0⟩ : ∃ W0, W0 = ((w2.alloc (Obj.cells (ccells 0 0 zbl).toArray 29)).setRow w2.heap.size (ccells (N : Int) k zbl).toArray).alloc (Obj.cells #[Value.int IntKind.i64 (N : Int)] 2) := ⟨_, rfl⟩
      have hBn : Blk W0 (w2.heap.size + 1) #[.int .i64 (N : Int)] 2 := by rw [hW0]; exact Blk.new _ _ _ _ (by simp)
      have hBc : Blk W0 w.heap.size (ccells (N : Int) k bs).toArray 29 := by rw [hW0]; exact ((G2.out.1.alloc _).rowOther _ _ (by omega)).alloc _
      have hBp : Blk W0 (w.heap.size + 1) #[.slice a zs.length cap] 38 := by rw [hW0]; exact ((G2.out.2.1.alloc _).rowOther _ _ (by omega)).alloc _
      have hBz : Blk W0 (w.heap.size + 1 + 1) (ccells 0 0 zbl).toArray 29 := by rw [hW0]; exact ((G2.out.2.2.1.alloc _).rowOther _ _ (by omega)).alloc _
      have hBy : Blk W0 w2.heap.size (ccells (N : Int) k zbl).toArray 29 := by rw [hW0]; exact ((Blk.new _ _ _ _ rfl).rowSame _).alloc _
      have hbl0 : Below w.heap.size w W0 := by
        rw [hW0]
        have hs2 := G2.out.2.2.2.2.size
        exact (below_setRow (G2.out.2.2.2.2.alloc hs2 _) hs2 _).alloc (by simp; omega) _
      rw [← hW0]
      clear hW0 hcy c0 c1
      refine wpIn_rangeFunc_ownH rfl (by omega) (gf := 85) (lb := #[.pointer (some ⟨w2.heap.size + 1, 0, none⟩)]) rfl trivial (enters_of Try.func85 (by kernel_rfl) rfl)
        (seq80 6 (w2.heap.size + 1) N N1 N2 W0 hBn) kpB_t (kpB_b hBn.lt) (Below.refl _ _) (fun _ => rfl)
        (fun pre W => RelRe k bs zs a cap w2.heap.size w pre W ∧ w2.heap.size + 1 < W.heap.size)
        (fun _ _ _ => False)
        (fun s A B row hs hg hr => ⟨⟨blk_own hs.1.1 hg hr, blk_own hs.1.2.1 hg hr, blk_own hs.1.2.2.1 hg hr, blk_own hs.1.2.2.2.1 hg hr, ownFrom_below (β := Unit) (Nat.le_refl _) hbl0.size () A B row hs.1.2.2.2.2 hg hr⟩, Nat.lt_of_lt_of_le hs.2 hg.size⟩)
        (fun _ _ _ _ _ hs _ _ => hs)
        ⟨⟨hBc, hBp, hBz, hBy, hbl0⟩, hBn.lt⟩
        (fun x a' W => ∃ b, a' = { tmps := #[.agg (ccells (N : Int) k bs).toArray, .slice a zs.length cap, .pointer (some ⟨w.heap.size, 0, none⟩), .pointer (some ⟨w.heap.size + 1, 0, none⟩), .pointer (some ⟨w.heap.size + 1 + 1, 0, none⟩), .int .i64 0, .pointer (some ⟨w2.heap.size, 0, none⟩), .int .i64 (x.1.1 : Int), .pointer (some ⟨b, 0, none⟩), .agg (ccells (N : Int) k bs).toArray, .bool true, .bool false, undef, .slice a zs.length cap, .pointer (some ⟨w.heap.size, 0, none⟩), .int .i64 (N : Int), .bool true, .bool false, undef, .pointer (some ⟨w.heap.size, 0, none⟩), .int .i64 (N : Int), .pointer (some ⟨w.heap.size, 1, none⟩), .int .i64 k, .agg (ccells (N : Int) k zbl).toArray, .pointer (some ⟨w.heap.size, 0, none⟩), .int .i64 (N : Int), .func (.func 85) #[] #[.pointer (some ⟨w2.heap.size + 1, 0, none⟩)], .int .i64 (x.1.1 : Int), .agg #[.int .i64 (x.1.2.1 : Int), .int .i64 (x.1.2.2 : Int)], undef, undef, undef, undef, undef, undef, undef, undef, undef, undef, undef, undef, undef, undef, undef, undef, undef, undef], defers := [] } ∧ w2.heap.size + 1 < b ∧ Blk W b #[.int .i64 (x.1.2.1 : Int), .int .i64 (x.1.2.2 : Int)] 75)
        (fun x a' s A B row hs hg hr => by obtain ⟨b, h1, h2, h3⟩ := hs; exact ⟨b, h1, h2, blk_own h3 hg hr⟩) ?assign ?body ?done ?stop
      case assign =>
        intro l pre x W Kx hI hK
        have HI := hidd hI
        have HK := hidd hK
        clear hI hK
        dsimp only [encE]
        gi_wp2
        refine HK.out _ _ ((KeepsOthers.alloc W _).from _) ?_ ?_ ?_
        · exact Below.heap_alloc W _ _ HI.out.2
        · exact ⟨⟨HI.out.1.1.alloc _, HI.out.1.2.1.alloc _, HI.out.1.2.2.1.alloc _, HI.out.1.2.2.2.1.alloc _, HI.out.1.2.2.2.2.alloc HI.out.1.2.2.2.2.size _⟩, by have := HI.out.2; simp; omega⟩
        · exact ⟨W.heap.size, rfl, by have := HI.out.2; omega, Blk.new _ _ _ _ rfl⟩
      case body =>
        rintro l pre x a' W hl _ ⟨⟨h1, h2, h3, h4, h5⟩, h6⟩ ⟨b, rfl, hb', h7⟩ hlen
        have hx := x.lt
        obtain ⟨hx1, hx2, hx3⟩ := x.2
        have h17 := eN_17 N2
        obtain ⟨j, hj⟩ : ∃ j, j = x.1.1 := ⟨_, rfl⟩
        obtain ⟨lo, hlo⟩ : ∃ lo, lo = x.1.2.1 := ⟨_, rfl⟩
        obtain ⟨hi, hhi⟩ : ∃ hi, hi = x.1.2.2 := ⟨_, rfl⟩
        rw [← hlo, ← hhi] at h7 hx2
        rw [← hhi] at hx3
        rw [← hj] at hx ⊢
        rw [← hlo, ← hhi]
        have HX := hidd (show x.1 = (j, lo, hi) by rw [hj, hlo, hhi])
        have hil : hi < zs.length := by rw [HLN.out]; exact hx3
        have hll : lo < zs.length := by omega
        have hsl := HSL.out.below h5 (Nat.le_refl _)
        rcases hsl with hz | ⟨bl, off, ha, hc⟩
        · have := HLN.out; subst hz; simp at this; omega
        · subst ha
          have hcl := hc lo hll
          have hch := hc hi hil
          obtain ⟨⟨y0, y1⟩, ⟨z0, z1⟩, hyz⟩ := ord_two HO.out hx2 hil
          obtain ⟨y, hy⟩ : ∃ y, y = zs.getD lo 0 := ⟨_, rfl⟩
          obtain ⟨z, hz⟩ : ∃ z, z = zs.getD hi 0 := ⟨_, rfl⟩
          rw [← hy] at hcl y0 y1 hyz
          rw [← hz] at hch z0 z1 hyz
          have HYZ := hidd hyz
          obtain ⟨ex0, ex1, ex2⟩ := eix_bd (n := (N : Int)) (by omega) y0 y1 z0 z1 hyz
          obtain ⟨E, hE⟩ := Int.eq_ofNat_of_zero_le ex0
          have HEX := hidd hE
          have hE136 : E < 136 := by omega
          have hEI : (E : Int) < 136 := by omega
          have hj136 : j < 136 := by omega
          have hjI : (j : Int) < 136 := by omega
          obtain ⟨v, hv⟩ : ∃ v, v = bs.getD j 0 := ⟨_, rfl⟩
          have cj := h1.cell (hb.cget (N : Int) k hj136)
          rw [← hv] at cj
          have cp := h2.cell (j := 0) (show _ = some (Value.slice (some ⟨bl, off, none⟩) zs.length cap) from rfl)
          have d0 := h7.cell (j := 0) (show _ = some (Value.int .i64 (lo : Int)) from rfl)
          have d1 := h7.cell (j := 1) (show _ = some (Value.int .i64 (hi : Int)) from rfl)
          have HA := hidd (fun (w' : World) (hw' : Below W.heap.size W w') => And.intro ((hw'.cell (block_lt_of_cell cp)).trans cp) (And.intro ((hw'.cell (block_lt_of_cell d0)).trans d0) (And.intro ((hw'.cell (block_lt_of_cell d1)).trans d1) (And.intro ((hw'.cell (block_lt_of_cell hcl)).trans hcl) (And.intro ((hw'.cell (block_lt_of_cell hch)).trans hch) ((hw'.cell (block_lt_of_cell cj)).trans cj))))))
          have HBB := hidd (show Bys ((pre.map Edg.v).foldl (rnF zs bs) zbl) from rnF_bys hb _ _ zbl_bys)
          have HST := hidd (show ∀ w', Below W.heap.size W w' → (∃ old, w'.cell? ⟨w2.heap.size, 2 + E, none⟩ = some old) ∧ w'.frozen? ⟨w2.heap.size, 2 + E, none⟩ = false ∧
              KeepsFrom W0.heap.size W (w'.setCell ⟨w2.heap.size, 2 + E, none⟩ (.int .u8 (v : Int))) ∧ KpB (w2.heap.size + 1) W (w'.setCell ⟨w2.heap.size, 2 + E, none⟩ (.int .u8 (v : Int))) ∧
              RelRe k bs zs (some ⟨bl, off, none⟩) cap w2.heap.size w (pre ++ [x]) (w'.setCell ⟨w2.heap.size, 2 + E, none⟩ (.int .u8 (v : Int))) ∧ w2.heap.size + 1 < (w'.setCell ⟨w2.heap.size, 2 + E, none⟩ (.int .u8 (v : Int))).heap.size from by
            intro w' hw'
            have q4 := h4.below hw' h4.lt
            have hs5 := h5.size
            have hbe := (h5.trans (hw'.mono h5.size)).setCell (p := ⟨w2.heap.size, 2 + E, none⟩) (by show w.heap.size ≤ w2.heap.size; omega) (.int .u8 (v : Int))
            have s := q4.same (2 + E) (.int .u8 (v : Int))
            rw [ccells_set] at s
            refine ⟨⟨_, q4.cell (HBB.out.cget (N : Int) k hE136)⟩, q4.fro _, (keeps_below (B := W0.heap.size) hw').trans ((KeepsOthers.setCell w' ⟨w2.heap.size, 2 + E, none⟩ (.int .u8 (v : Int))).from _),
              (heap_setCell_other w' ⟨w2.heap.size, 2 + E, none⟩ (w2.heap.size + 1) (.int .u8 (v : Int)) (by show w2.heap.size + 1 ≠ w2.heap.size; omega)).trans (hw'.block _ h6),
              ⟨(h1.below hw' h1.lt).other _ _ (by show w.heap.size ≠ w2.heap.size; omega), (h2.below hw' h2.lt).other _ _ (by show w.heap.size + 1 ≠ w2.heap.size; omega), (h3.below hw' h3.lt).other _ _ (by show w.heap.size + 1 + 1 ≠ w2.heap.size; omega), ?_, hbe⟩,
              Nat.lt_of_lt_of_le h6 (Nat.le_trans hw'.size (by simp [World.setCell]))⟩
            rw [List.map_append, List.foldl_append]
            show Blk _ _ (ccells (N : Int) k (rnF zs bs ((pre.map Edg.v).foldl (rnF zs bs) zbl) x.1)).toArray 29
            unfold rnF
            rw [HX.out, ← hy, ← hz, hE, ← hv, Int.toNat_natCast]
            exact s)
          have HNE := HYZ
          clear hj hlo hhi h1 h2 h3 h4 h5 h6 h7 hx1 hc hcl hch hy hz hyz hE hv cj cp d0 d1 ex0 ex1 ex2
          gi_wp2_with fail
          refine wpIn_region_tail_lit (lets_round l _) 17 (fun w' => Below W.heap.size W w') (by decide) (by kernel_rfl) ((Below.refl _ _).drew) (by kernel_rfl) (by kernel_rfl) (by kernel_rfl) (by kernel_rfl) (by kernel_rfl) ?_
          simp only [List.take_succ_cons, List.take_zero, List.drop_succ_cons, List.drop_zero, List.map_cons, List.map_nil, List.cons_append, List.nil_append, idle]
          refine qs rfl (fun KQ hKQ => ?_)
          apply Exists.intro
          refine ⟨fun w' hw' => ?_, ?_⟩
          · (have e1 := (HA.out w' hw').1; go_simp; exact rfl)
          go_simp
          refine hKQ _ ?_
          clear hKQ KQ
          refine qs rfl (fun KQ hKQ => ?_)
          apply Exists.intro
          refine ⟨fun w' hw' => ?_, ?_⟩
          · (go_simp; exact rfl)
          go_simp
          refine hKQ _ ?_
          clear hKQ KQ
          refine qs rfl (fun KQ hKQ => ?_)
          apply Exists.intro
          refine ⟨fun w' hw' => ?_, ?_⟩
          · (have e1 := (HA.out w' hw').2.1; go_simp; exact rfl)
          go_simp
          refine hKQ _ ?_
          clear hKQ KQ
          refine qs rfl (fun KQ hKQ => ?_)
          apply Exists.intro
          refine ⟨fun w' hw' => ?_, ?_⟩
          · (go_simp; exact rfl)
          go_simp
          refine hKQ _ ?_
          clear hKQ KQ
          refine qs rfl (fun KQ hKQ => ?_)
          apply Exists.intro
          refine ⟨fun w' hw' => ?_, ?_⟩
          · (have e1 := (HA.out w' hw').2.2.2.1; go_simp; exact rfl)
          go_simp
          refine hKQ _ ?_
          clear hKQ KQ
          refine qs rfl (fun KQ hKQ => ?_)
          apply Exists.intro
          refine ⟨fun w' hw' => ?_, ?_⟩
          · (have e1 := (HA.out w' hw').1; go_simp; exact rfl)
          go_simp
          refine hKQ _ ?_
          clear hKQ KQ
          refine qs rfl (fun KQ hKQ => ?_)
          apply Exists.intro
          refine ⟨fun w' hw' => ?_, ?_⟩
          · (go_simp; exact rfl)
          go_simp
          refine hKQ _ ?_
          clear hKQ KQ
          refine qs rfl (fun KQ hKQ => ?_)
          apply Exists.intro
          refine ⟨fun w' hw' => ?_, ?_⟩
          · (have e1 := (HA.out w' hw').2.2.1; go_simp; exact rfl)
          go_simp
          refine hKQ _ ?_
          clear hKQ KQ
          refine qs rfl (fun KQ hKQ => ?_)
          apply Exists.intro
          refine ⟨fun w' hw' => ?_, ?_⟩
          · (go_simp; exact rfl)
          go_simp
          refine hKQ _ ?_
          clear hKQ KQ
          refine qs rfl (fun KQ hKQ => ?_)
          apply Exists.intro
          refine ⟨fun w' hw' => ?_, ?_⟩
          · (have e1 := (HA.out w' hw').2.2.2.2.1; go_simp; exact rfl)
          go_simp
          refine hKQ _ ?_
          clear hKQ KQ
          refine qs rfl (fun KQ hKQ => ?_)
          apply Exists.intro
          refine ⟨fun w' hw' => ?_, ?_⟩
          · (go_simp; exact (edge54 _ _ _ HNE.out (by omega) (by omega) (by omega) (by omega)).mono fun _ _ h => ⟨by rw [h.1, HEX.out], by rw [← h.2]; exact hw'⟩)
          go_simp
          refine hKQ _ ?_
          clear hKQ KQ
          refine qs rfl (fun KQ hKQ => ?_)
          apply Exists.intro
          refine ⟨fun w' hw' => ?_, ?_⟩
          · (go_simp; exact rfl)
          go_simp
          refine hKQ _ ?_
          clear hKQ KQ
          refine qs rfl (fun KQ hKQ => ?_)
          apply Exists.intro
          refine ⟨fun w' hw' => ?_, ?_⟩
          · (go_simp; exact rfl)
          go_simp
          refine hKQ _ ?_
          clear hKQ KQ
          refine qs rfl (fun KQ hKQ => ?_)
          apply Exists.intro
          refine ⟨fun w' hw' => ?_, ?_⟩
          · (go_simp; exact rfl)
          go_simp
          refine hKQ _ ?_
          clear hKQ KQ
          refine qs rfl (fun KQ hKQ => ?_)
          apply Exists.intro
          refine ⟨fun w' hw' => ?_, ?_⟩
          · (have e1 := (HA.out w' hw').2.2.2.2.2; go_simp; exact rfl)
          go_simp
          refine hKQ _ ?_
          clear hKQ KQ
          refine qs rfl (fun KQ hKQ => ?_)
          apply Exists.intro
          refine ⟨fun w' hw' => ?_, ?_⟩
          · (go_simp; exact rfl)
          go_simp
          refine hKQ _ ?_
          clear hKQ KQ
          refine qs rfl (fun KQ hKQ => ?_)
          apply Exists.intro
          refine ⟨fun w' hw' => ?_, ?_⟩
          · (go_simp; exact rfl)
          go_simp
          refine hKQ _ ?_
          clear hKQ KQ
          refine qs rfl (fun KQ hKQ => ?_)
          apply Exists.intro
          refine ⟨fun w' hw' => ?_, ?_⟩
          · (go_simp; exact rfl)
          go_simp
          refine hKQ _ ?_
          clear hKQ KQ
          refine wpQuiet_nil ?_
          intro w' hw'
          obtain ⟨⟨old, hwE⟩, hfE, hrel'⟩ := HST.out w' hw'
          have K := hidd hrel'
          clear hrel'
          gi_wp2
          exact K.out
      case done =>
        rintro D xs W hD hxs ⟨⟨h1, h2, h3, h4, h5⟩, h6⟩ hK
        rw [hxs] at h4
        have h4 : Blk W w2.heap.size (ccells (N : Int) k (rnB N zs bs)).toArray 29 := h4
        have hbB : Bys (rnB N zs bs) := rnF_bys hb _ _ zbl_bys
        have HS1 := hidd (size_c26 (N : Int) k hbB)
        have HO1 := hidd (size_cc 0 0 (N : Int) k zbl_bys hbB)
        have HA1 := hidd (ccells_one (N : Int) k (rnB N zs bs))
        have R := hidd (And.intro h3 (And.intro h4 (And.intro (h3.rowSame (ccells (N : Int) k (rnB N zs bs)).toArray) (below_setRow h5 (g := w.heap.size + 1 + 1) (by omega) (ccells (N : Int) k (rnB N zs bs)).toArray))))
        have hBnl := hBn.lt
        have hDW : W0.heap.size ≤ D := hD
        have hK' : (W.setRow (w.heap.size + 1 + 1) (ccells (N : Int) k (rnB N zs bs)).toArray).heap[D]? = some (.deferred (some [])) := (setRow_other W (w.heap.size + 1 + 1) D _ (by omega)).trans hK
        have HK := hidd hK'
        clear h1 h2 h3 h4 h5 hK hK'
        gi_wp2_with (first
          | (refine inLoadRow rfl 29 (.tmp 6) rfl w2.heap.size rfl 29 _ _ R.out.2.1 Try.underlying29 rfl HS1.out ?_)
          | (refine inStoreRow rfl 29 (.tmp 4) (.tmp 46) rfl (w.heap.size + 1 + 1) _ rfl rfl 29 _ R.out.1 HS1.out HO1.out HA1.out ?_))
        refine ⟨by simp [Act.put], .inl ⟨_, _, rfl, run_takeDeferred HK.out, ?_⟩⟩
        have hr : Blk ((W.setRow (w.heap.size + 1 + 1) (ccells (N : Int) k (rnB N zs bs)).toArray).putObj D (.deferred none)) (w.heap.size + 1 + 1) (ccells (N : Int) k (rnB N zs bs)).toArray 29 := (World.putObj_heap_other (by omega)).trans R.out.2.2.1
        have hb2 : Below w.heap.size w ((W.setRow (w.heap.size + 1 + 1) (ccells (N : Int) k (rnB N zs bs)).toArray).putObj D (.deferred none)) := R.out.2.2.2.grown (grownBy_putObj' _ D (.deferred none)) R.out.2.2.2.size (fun k e => by cases e; omega)
        exact ⟨_, results_row_tmp rfl _ _ (w.heap.size + 1 + 1) 29 _ _ rfl hr Try.underlying29 rfl HS1.out, by rw [H.out]; rfl, hb2⟩
      case stop =>
        rintro D c pre W _ _ h _
        exact h.elim
end Go.Proofs.Ytpjegmmichjlbaa
