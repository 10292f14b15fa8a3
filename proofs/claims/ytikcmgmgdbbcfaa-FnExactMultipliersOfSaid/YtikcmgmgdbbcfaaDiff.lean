/- Lists of colours taken as arrays; colourings that a list tells by distances or by differences: the program. -/
import Derived.Test.YtikcmgmgdbbcfaaConcat
import Derived.Test.YtikcmgmgdbbcfaaGb
import Derived.Test.YtikcmgmgdbbcfaaGc
namespace Go.Proofs.Ytikcmgmgdbbcfaa
set_option linter.unusedVariables false
set_option linter.unusedSimpArgs false
open Go Go.RowKit Go.Shelf
def z15 : List Int := List.replicate 15 0
/-- The fifteen cells that the program takes of a list. -/
def lst15 (zs : List Int) : List Int := (zs ++ z15).take 15
theorem lst15_len (zs : List Int) : (lst15 zs).length = 15 := by simp [lst15, z15]
theorem lst15_get (zs : List Int) {j : Nat} (h : j < 15) : (lst15 zs).getD j 0 = zs.getD j 0 := by
  simp only [lst15, List.getD_eq_getElem?_getD, List.getElem?_take, h, if_true]
  by_cases hj : j < zs.length
  · rw [List.getElem?_append_left hj]
  · rw [List.getElem?_append_right (by omega), List.getElem?_eq_none (l := zs) (by omega)]
    unfold z15
    rw [List.getElem?_replicate]
    split <;> rfl
theorem info52 : (Try.prog.info? 52).map (fun i => (i.zero, i.size)) = some (some (.agg (icells z15).toArray), 15) := by kernel_rfl
theorem zero52 : ∀ w, (zeroValue 52).run Try.prog w = .ok (.agg (icells z15).toArray) w := (zero_of_info info52).1
theorem size52 : (Try.prog.info? 52).map (·.size) = some 15 := (zero_of_info info52).2
theorem icells_one (zs : List Int) : (icells zs).toArray.all (·.oneCell') = true := all_oneCell_toArray (icells_oc zs)
theorem zrow15 : zrow 15 = (icells z15).toArray := zrow_icells 15
theorem concat15 (zs : List Int) (a : Option Addr) (c1 g h : Nat) (w : World) (hB : Blk w g #[.slice a zs.length c1, .slice (some ⟨h, 0, none⟩) 15 15] 22) (h1 : SlI w a zs) (h2 : Blk w h (icells z15).toArray 2)
    (hy : 1 ≤ zs.length) (hy2 : zs.length ≤ 1048576) :
    Calls Try.prog 89 #[.slice (some ⟨g, 0, none⟩) 2 2] w fun e w' => ∃ b cap, e = .returned (.slice (some ⟨b, 0, none⟩) (zs.length + 15) cap) ∧ w'.rangeAt b 0 (icells (lst15 zs)) ∧ Below w.heap.size w w' := by
  refine (concat89 zs z15 a _ c1 15 g w hB h1 (sl_of_blk h2) hy hy2 (by decide) (by decide)).mono ?_
  rintro e w1 ⟨v, rfl, hown, hb1⟩
  rcases hown.2 with ⟨rfl, hz⟩ | ⟨gb, cap, cur, rfl, hbase, hgb, r1, r2, r3, r4⟩
  · omega
  · refine ⟨gb, cap, rfl, ?_, hb1⟩
    have hblk : Blk w1 gb cur 2 := hgb
    refine hblk.range 0 _ fun j v hv => ?_
    have hj : j < 15 := by
      have := (List.getElem?_eq_some_iff.1 hv).1
      rwa [icells_len, lst15_len] at this
    have hz15 : z15.length = 15 := by decide
    rw [Nat.zero_add, ← Array.getElem?_toList]
    have h3 : (cur.toList.take ((zs.length + z15.length) * 1))[j]? = (icells zs ++ icells z15)[j]? := by rw [r4]
    rw [List.getElem?_take, if_pos (by omega)] at h3
    rw [h3, ← hv, ← icells_app, lst15]
    simp only [icells, List.map_take, List.getElem?_take, hj, if_true]
set_option maxRecDepth 100000 in
set_option maxHeartbeats 2000000 in
theorem list48 (zs : List Int) (a : Option Addr) (cap : Nat) (w : World) (hs : SlI w a zs) (h1 : 1 ≤ zs.length) (h2 : zs.length ≤ 1048576) :
    Calls Try.prog 48 #[.slice a zs.length cap] w fun e w' => e = .returned (.agg (icells (lst15 zs)).toArray) ∧ Below w.heap.size w w' := by
  have Hz := zero52
  have hmk : ∀ W : World, (Instr.makeSlice 22 (.int .i64 15) (.int .i64 15)).run Try.prog W = .ok (.slice (some ⟨W.heap.size, 0, none⟩) 15 15) (W.alloc (.cells (icells z15).toArray 2)) := fun W => by rw [← zrow15]; exact make29 15 (by omega) W
  have HS := hidd hs
  have HSZ := hidd (show (Try.prog.info? 52).map (·.size) = some (icells (lst15 zs)).toArray.size by rw [size52]; simp [icells_len, lst15_len])
  have HSL := hidd (show (Try.prog.info? 52).map (·.size) = some (icells (lst15 zs)).length by rw [size52]; simp [icells_len, lst15_len])
  have HSO := hidd (show (icells z15).toArray.size = (icells (lst15 zs)).toArray.size by simp [icells_len, lst15_len, z15])
  have HSA := hidd (icells_one (lst15 zs))
  have hb0 : Below w.heap.size w (((w.alloc (.cells (icells z15).toArray 52)).alloc (.cells (icells z15).toArray 2)).alloc (.cells #[.slice a zs.length cap, .slice (some ⟨w.heap.size + 1, 0, none⟩) 15 15] 22)) := (((Below.refl _ _).alloc (Nat.le_refl _) _).alloc (by simp) _).alloc (by simp; omega) _
  have HB0 := hidd hb0
  clear hs hb0
  go_enter Try.func48, Try.ntmps48
  go_wp2_with fail
  refine (concat15 zs a cap _ (w.heap.size + 1) _ (Blk.new _ _ _ _ (by simp)) (HS.out.below HB0.out (Nat.le_refl _)) ((Blk.new _ _ _ _ (by simp)).alloc _) h1 h2).mono ?_
  rintro e w1 ⟨b, cp, rfl, hr, hb1⟩
  have Z1 : Blk w1 w.heap.size (icells z15).toArray 52 := (((Blk.new _ _ _ _ rfl).alloc _).alloc _).below hb1 (by simp; omega)
  have B1 := HB0.out.trans (hb1.mono (by simp; omega))
  have hlt : ¬ (zs.length + 15 < 15) := by omega
  have R := hidd (And.intro hr (And.intro Z1 (And.intro (Z1.rowSame (icells (lst15 zs)).toArray) (below_setRow B1 (g := w.heap.size) (Nat.le_refl _) (icells (lst15 zs)).toArray))))
  have hat : (Instr.arrayAt 52 (.slice (some ⟨b, 0, none⟩) (zs.length + 15) cp)).run Try.prog w1 = .ok (.pointer (some ⟨b, 0, none⟩)) w1 := by simp [Instr.arrayAt, run_underlying Try.underlying52, Sem.run_bind, Result.andThen, hlt]
  clear hmk hr Z1 B1 hb1
  go_wp2_with (first
    | (refine wpList_load_mid rfl 52 (.tmp 7) rfl b 0 rfl (icells (lst15 zs)) _ R.out.1 Try.underlying52 rfl HSL.out ?_)
    | (refine wpList_store_row rfl 52 (.tmp 2) (.tmp 8) rfl w.heap.size _ rfl rfl 52 _ R.out.2.1 HSZ.out HSO.out HSA.out ?_))
  refine bodyPost_ret (results_cell_row rfl _ _ w.heap.size 52 _ (0,0) _ rfl R.out.2.2.1 Try.underlying52 rfl HSZ.out) rfl ⟨rfl, R.out.2.2.2⟩
/-- The distance of two points on a circle. -/
def dst (N lo hi : Nat) : Nat := min (hi - lo) (N - hi + lo)
theorem dst_bd {N lo hi : Nat} (h1 : lo < hi) (h2 : hi < N) : 1 ≤ dst N lo hi ∧ dst N lo hi ≤ N / 2 := by unfold dst; omega
theorem dst_int {N lo hi : Nat} (h1 : lo < hi) (h2 : hi < N) : min ((hi : Int) - lo) ((N : Int) - hi + lo) = (dst N lo hi : Int) := by unfold dst; omega
theorem within45 (n lo hi : Int) (w : World) : Calls Try.prog 45 #[.int .i64 n, .int .i64 lo, .int .i64 hi] w fun e w' => e = .returned (.bool (inB n lo hi)) ∧ w = w' := by
  by_cases h1 : lo ≤ n
  · by_cases h2 : n ≤ hi
    · have H := hidd (inB_yes h1 h2)
      go_enter Try.func45, Try.ntmps45
      go_wp2
      go_ret
      exact ⟨by rw [H.out]; rfl, rfl⟩
    · have H := hidd (inB_no (n := n) (lo := lo) (hi := hi) (by omega))
      have hd : decide (n ≤ hi) = false := by simpa using h2
      clear h2
      go_enter Try.func45, Try.ntmps45
      go_wp2
      go_ret
      exact ⟨by rw [H.out]; rfl, rfl⟩
  · have H := hidd (inB_no (n := n) (lo := lo) (hi := hi) (by omega))
    have hd : decide (lo ≤ n) = false := by simpa using h1
    clear h1
    go_enter Try.func45, Try.ntmps45
    go_wp2
    go_ret
    exact ⟨by rw [H.out]; rfl, rfl⟩
/-- Has a list as many colours as told, each one of k? -/
def isListB (zs : List Int) (m k : Int) : Bool := decide ((zs.length : Int) = m) && allB zs k
set_option maxRecDepth 100000 in
theorem isList46 (zs : List Int) (a : Option Addr) (cap : Nat) (m k : Int) (w : World) (hs : SlI w a zs) (hl : zs.length ≤ 9223372036854775807) :
    Calls Try.prog 46 #[.slice a zs.length cap, .int .i64 m, .int .i64 k] w fun e w' => e = .returned (.bool (isListB zs m k)) ∧ w = w' := by
  have HS := hidd hs
  clear hs
  by_cases hm : (zs.length : Int) = m
  · have hq : ((zs.length : Int) == m) = true := by simpa using hm
    have H := hidd (show isListB zs m k = allB zs k by simp [isListB, hm])
    clear hm
    go_enter Try.func46, Try.ntmps46
    go_wp2_with (go_at_call 85; refine (all51 zs a cap k _ HS.out hl).mono ?_; rintro e w' ⟨rfl, rfl⟩)
    go_ret
    exact ⟨by rw [H.out]; rfl, rfl⟩
  · have hq : ((zs.length : Int) == m) = false := by rw [beq_eq_false_iff_ne]; exact hm
    have H := hidd (show isListB zs m k = false by simp [isListB, hm])
    clear hm
    go_enter Try.func46, Try.ntmps46
    go_wp2_with fail
    go_ret
    exact ⟨by rw [H.out]; rfl, rfl⟩
theorem dist88 (n lo hi : Int) (h0 : 0 ≤ lo) (h1 : lo < hi) (h2 : hi < n) (h3 : n ≤ 17) (w : World) :
    Calls Try.prog 88 #[.int .i64 n, .int .i64 lo, .int .i64 hi] w fun e w' => e = .returned (.int .i64 (min (hi - lo) (n - hi + lo))) ∧ w = w' := by
  go_enter Try.func88, Try.ntmps88
  go_wp2
  all_goals (go_ret; refine ⟨?_, rfl⟩; show Ending.returned (Value.int .i64 _) = Ending.returned (Value.int .i64 _); congr 2; omega)
set_option maxRecDepth 100000 in
set_option maxHeartbeats 1000000 in
theorem rule87 (L : List Int) (b0 b1 N : Nat) (W : World) (hL : L.length = 15) (hC : Blk W b0 (icells L).toArray 52) (hN : Blk W b1 #[.int .i64 (N : Int)] 2) (n2 : N ≤ 17) (lo hi : Nat) (h1 : lo < hi) (h3 : hi < N) :
    Calls Try.prog 87 #[.int .i64 (lo : Int), .int .i64 (hi : Int), .pointer (some ⟨b0, 0, none⟩), .pointer (some ⟨b1, 0, none⟩)] W fun e W' => e = .returned (.int .i64 (L.getD (dst N lo hi - 1) 0)) ∧ Below W.heap.size W W' := by
  obtain ⟨hd1, hd2⟩ := dst_bd h1 h3
  obtain ⟨D, hD⟩ : ∃ D, D = dst N lo hi := ⟨_, rfl⟩
  have hDI := dst_int h1 h3
  rw [← hD] at hd1 hd2 hDI ⊢
  have cL := hC.cell (icells_get (zs := L) (j := D - 1) (by omega))
  obtain ⟨v, hv⟩ : ∃ v, v = L.getD (D - 1) 0 := ⟨_, rfl⟩
  rw [← hv] at cL ⊢
  obtain ⟨E, hE⟩ : ∃ E, E = D - 1 := ⟨_, rfl⟩
  rw [← hE] at cL
  have cN := hN.cell (j := 0) (show _ = some (Value.int .i64 (N : Int)) from rfl)
  have HDI := hidd hDI
  have HDE := hidd (show (D : Int) = (E : Int) + 1 by omega)
  have hE15 : (E : Int) < 15 := by omega
  clear hD hv hC hN hDI hE hd1 hd2
  go_enter Try.func87, Try.ntmps87
  go_wp2_with (go_at_call 88; refine (dist88 _ _ _ (by omega) (by omega) (by omega) (by omega) _).mono ?_; rintro e w' ⟨rfl, rfl⟩; rw [HDI.out, HDE.out])
  go_ret
  exact ⟨rfl, Below.refl _ _⟩
theorem ruleOf87 (L : List Int) (b0 b1 N : Nat) (w : World) (hL : L.length = 15) (hC : Blk w b0 (icells L).toArray 52) (hN : Blk w b1 #[.int .i64 (N : Int)] 2) (n2 : N ≤ 17) :
    Rule N 87 #[.pointer (some ⟨b0, 0, none⟩), .pointer (some ⟨b1, 0, none⟩)] (fun lo hi => L.getD (dst N lo hi - 1) 0) w := by
  intro x W hbl
  obtain ⟨hx1, hx2, hx3⟩ := x.2
  exact rule87 L b0 b1 N W hL (hC.below hbl hC.lt) (hN.below hbl hN.lt) n2 x.1.2.1 x.1.2.2 hx2 hx3
set_option maxRecDepth 100000 in
set_option maxHeartbeats 2000000 in
theorem circ47 (L : List Int) (N : Nat) (k : Int) (w : World) (hL : L.length = 15) (n1 : 1 ≤ N) (n2 : N ≤ 17) (hr : ∀ j, 0 ≤ L.getD j 0 ∧ L.getD j 0 < 256) :
    Calls Try.prog 47 #[.int .i64 (N : Int), .int .i64 k, .agg (icells L).toArray] w fun e w' => e = .returned (.agg (ccells (N : Int) k (paintB N (fun lo hi => L.getD (dst N lo hi - 1) 0))).toArray) ∧ Below w.heap.size w w' := by
  have Hz := zero26
  have hmf : ∀ (fn : Fn) (first cap : Array Value) (w : World), (Instr.makeFunc fn first cap).run Try.prog w = .ok (.func fn first cap) w := fun _ _ _ _ => rfl
  obtain ⟨r, hrr⟩ : ∃ r : Nat → Nat → Int, r = fun (lo hi : Nat) => L.getD (dst N lo hi - 1) 0 := ⟨_, rfl⟩
  rw [← hrr]
  have HR := hidd hrr
  have HRB := hidd (show ∀ lo hi, 0 ≤ r lo hi ∧ r lo hi < 256 from fun lo hi => by rw [hrr]; exact hr _)
  have HPB := hidd (paintB_bys (N := N) HRB.out)
  have HPS := hidd (size_c26 (N : Int) k HPB.out)
  have HPO := hidd (size_cc 0 0 (N : Int) k zbl_bys HPB.out)
  have HPA := hidd (ccells_one (N : Int) k (paintB N r))
  have HRO := hidd (fun b0 b1 W h1 h2 => ruleOf87 L b0 b1 N W hL h1 h2 n2)
  obtain ⟨C, hC⟩ : ∃ C, C = (icells L).toArray := ⟨_, rfl⟩
  rw [← hC] at HRO ⊢
  have HOC := hidd (show (Try.prog.info? 52).map (·.size) = some C.size by rw [hC, size52]; simp [icells_len, hL])
  clear hrr hr hC hL
  go_enter Try.func47, Try.ntmps47
  go_wp2_with fail
  have hW : ∀ W, W = (((w.alloc (.cells #[.int .i64 (N : Int)] 2)).alloc (.cells C 52)).alloc (.cells (ccells 0 0 zbl).toArray 25)) →
      Blk W w.heap.size #[.int .i64 (N : Int)] 2 ∧ Blk W (w.heap.size + 1) C 52 ∧ Blk W (w.heap.size + 1 + 1) (ccells 0 0 zbl).toArray 25 ∧ Below w.heap.size w W := by
    rintro W rfl
    exact ⟨((Blk.new _ _ _ _ rfl).alloc _).alloc _, (Blk.new _ _ _ _ (by simp)).alloc _, Blk.new _ _ _ _ (by simp), (((Below.refl _ _).alloc (Nat.le_refl _) _).alloc (by simp) _).alloc (by simp; omega) _⟩
  have HW := hidd (hW _ rfl)
  clear hW
  refine (paint52 N k 87 _ r _ n1 n2 (fun x => HRB.out _ _) (enters_of Try.func87 (by kernel_rfl) rfl) (by rw [HR.out]; exact HRO.out _ _ _ HW.out.2.1 HW.out.1)).mono ?_
  rintro e w1 ⟨rfl, hb1⟩
  have z1 := HW.out.2.2.1.below hb1 HW.out.2.2.1.lt
  have b1 := HW.out.2.2.2.trans (hb1.mono HW.out.2.2.2.size)
  have R := hidd (And.intro z1 (And.intro (z1.rowSame (ccells (N : Int) k (paintB N r)).toArray) (below_setRow b1 (g := w.heap.size + 1 + 1) (by omega) (ccells (N : Int) k (paintB N r)).toArray)))
  clear hb1 z1 b1
  go_wp2_with (refine wpList_store_row rfl 25 (.tmp 6) (.tmp 10) rfl (w.heap.size + 1 + 1) _ rfl rfl 25 _ R.out.1 HPS.out HPO.out HPA.out ?_)
  refine bodyPost_ret (results_cell_row rfl _ _ (w.heap.size + 1 + 1) 25 _ (0,0) _ rfl R.out.2.1 Try.underlying25 rfl HPS.out) rfl ⟨rfl, R.out.2.2⟩
end Go.Proofs.Ytikcmgmgdbbcfaa
