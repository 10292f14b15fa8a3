/- A colouring with sizes: avoids, with, enterAvoiding. -/
import Derived.Test.YtckffliiidgilaaDoorDos
import Derived.Test.YtckffliiidgilaaDoorPut
namespace Go.Proofs.YtckffliiidgilaaDoor
set_option linter.unusedVariables false
set_option linter.unusedSimpArgs false
open Go Go.RowKit Go.Extern.Stop Go.Stop Go.Extern
set_option maxRecDepth 100000 in
set_option maxHeartbeats 2000000 in
theorem avoids50 (N K : Nat) (bs : List Nat) (hb : Bys bs) (zs : List Int) (a : Option Addr) (cap : Nat) (w : World) (hs : SlI w a zs) (hl : zs.length = K) (n1 : 1 ≤ N) (hN17 : N ≤ 17) (hK : K ≤ 4) (hsz : szP zs K = true) :
    Calls Tryd.prog 50 #[.agg (scl (N : Int) (K : Int) bs a K cap).toArray] w fun e w' => e = .returned (.bool (avP N bs zs K)) ∧ Below w.heap.size w w' := by
  have HSL := hidd hs
  have HFS := hidd (fun W h => firsts31 N K bs hb zs a cap W h hl n1 hN17 hK)
  have HAV := hidd (fsR_av (N := N) (bs := bs) (zs := zs) (K := K) hN17 hsz)
  obtain ⟨av, hav⟩ : ∃ av, av = avP N bs zs K := ⟨_, rfl⟩
  obtain ⟨x, hx⟩ : ∃ x : Int, x = ((fsR N bs zs K).2 : Int) := ⟨_, rfl⟩
  obtain ⟨y, hy⟩ : ∃ y : Int, y = ((fsR N bs zs K).1 : Int) := ⟨_, rfl⟩
  rw [← hx, ← hav] at HAV
  rw [← hx, ← hy] at HFS
  rw [← hav]
  have S1 := hidd (size_l28 (N : Int) (K : Int) hb)
  obtain ⟨C, hC⟩ : ∃ C, C = (scl (N : Int) (K : Int) bs a K cap).toArray := ⟨_, rfl⟩
  have hc1 : C[138]? = some (.slice a K cap) := by rw [hC]; exact scl_snd hb
  have HR := hidd (fun W (h : Blk W w.heap.size C 56) => h.range 0 (ccells (N : Int) (K : Int) bs) (fun j v hj => by rw [hC]; exact scl_fst j v hj))
  rw [← hC]
  have HB := hidd (Blk.new w C 56 _ rfl)
  have HBl := hidd ((Below.refl w.heap.size w).alloc (Nat.le_refl _) (.cells C 56))
  have c1 := HB.out.cell hc1
  clear hC hc1 hs hl hsz hav hx hy
  go_enter Tryd.func50, Tryd.ntmps50
  go_wp2_with (refine wpList_load_mid rfl 28 (.tmp 6) rfl w.heap.size 0 rfl (ccells (N : Int) (K : Int) bs) _ (HR.out _ HB.out) Tryd.underlying28 rfl S1.out ?_)
  refine (HFS.out _ (HSL.out.below HBl.out (Nat.le_refl _))).mono ?_
  rintro e w1 ⟨rfl, hb1⟩
  have K1 := hidd (HBl.out.trans (hb1.mono (by simp)))
  clear hb1
  go_wp2_with fail
  go_ret
  exact ⟨by rw [← HAV.out]; rfl, K1.out⟩
set_option maxRecDepth 100000 in
set_option maxHeartbeats 2000000 in
theorem with49 (n k : Int) (bs : List Nat) (hb : Bys bs) (a : Option Addr) (l cap : Nat) (cs : List Int) (b : Option Addr) (capb : Nat) (w : World) (hs : SlI w b cs) (hcl : cs.length ≤ 1048576) (hc0 : codeP n k bs cs = 0) :
    Calls Tryd.prog 49 #[.agg (scl n k bs a l cap).toArray, .slice b cs.length capb] w fun e w' => e = .returned (.agg (scl (n + 1) k (putK bs (edg n).toNat cs cs.length) a l cap).toArray) ∧ Below w.heap.size w w' := by
  have Hz := zero56
  have Hz2 := zero26
  have HSL := hidd hs
  have hpb : Bys (putK bs (edg n).toNat cs cs.length) := by have := ppB_bys (n := n) (k := k) hb cs; unfold ppB at this; rw [if_pos hc0] at this; exact this
  have HIM := hidd (fun W h => impl38 n k bs hb cs b capb W h (by omega))
  rw [outP_good hc0] at HIM
  obtain ⟨pb, hpbe⟩ : ∃ pb, pb = putK bs (edg n).toNat cs cs.length := ⟨_, rfl⟩
  rw [← hpbe] at hpb HIM ⊢
  have HPB := hidd hpb
  have S1 := hidd (size_l28 n k hb)
  have SZ := hidd (size_c26 (n + 1) k hpb)
  have SO := hidd (size_cc 0 0 (n + 1) k zbl_bys hpb)
  have SA := hidd (ccells_one (n + 1) k pb)
  have HS5 := hidd (size_s56 (n := n + 1) (k := k) hpb a l cap)
  have HO5 := hidd (show (scl 0 0 zbl none 0 0).toArray.size = (scl (n + 1) k pb a l cap).toArray.size by simp [scl_len zbl_bys, scl_len hpb])
  have HA5 := hidd (scl_one (n := n + 1) (k := k) (bs := pb) (a := a) (l := l) (c := cap))
  obtain ⟨C, hC⟩ : ∃ C, C = (scl n k bs a l cap).toArray := ⟨_, rfl⟩
  have hc1 := hidd (show C[138]? = some (.slice a l cap) by rw [hC]; exact scl_snd hb)
  have HR := hidd (fun W (h : Blk W w.heap.size C 56) => h.range 0 (ccells n k bs) (fun j v hj => by rw [hC]; exact scl_fst j v hj))
  rw [← hC]
  obtain ⟨W2, hW2⟩ : ∃ W2, W2 = (w.alloc (.cells C 56)).alloc (.cells (scl 0 0 zbl none 0 0).toArray 56) := ⟨_, rfl⟩
  have g1 : Blk W2 w.heap.size C 56 := by rw [hW2]; exact (Blk.new _ _ _ _ rfl).alloc _
  have g2 : Blk W2 (w.heap.size + 1) (scl 0 0 zbl none 0 0).toArray 56 := by rw [hW2]; exact Blk.new _ _ _ _ (by simp)
  have g3 : Below w.heap.size w W2 := by rw [hW2]; exact ((Below.refl _ _).alloc (Nat.le_refl _) _).alloc (by simp) _
  have G := hidd (And.intro g1 (And.intro g2 g3))
  clear g1 g2 g3 hC hs hpbe hpb hc0
  go_enter Tryd.func49, Tryd.ntmps49
  go_upto_region 1 with fail
  rw [← hW2]
  clear hW2
  go_wp2_with (refine wpList_load_mid rfl 28 (.tmp 8) rfl w.heap.size 0 rfl (ccells n k bs) _ (HR.out _ G.out.1) Tryd.underlying28 rfl S1.out ?_)
  refine (HIM.out _ (HSL.out.below G.out.2.2 (Nat.le_refl _))).mono ?_
  rintro e w1 ⟨rfl, hb1⟩
  have k1 := G.out.1.below hb1 G.out.1.lt
  have k2 := G.out.2.1.below hb1 G.out.2.1.lt
  have k3 := G.out.2.2.trans (hb1.mono G.out.2.2.size)
  obtain ⟨W4, hW4⟩ : ∃ W4, W4 = w1.alloc (.cells (ccells 0 0 zbl).toArray 28) := ⟨_, rfl⟩
  have k4 : Blk W4 w1.heap.size (ccells 0 0 zbl).toArray 28 := by rw [hW4]; exact Blk.new _ _ _ _ rfl
  have hlt : w.heap.size + 1 < w1.heap.size := k2.lt
  have k1' : Blk W4 w.heap.size C 56 := by rw [hW4]; exact k1.alloc _
  have k2' : Blk W4 (w.heap.size + 1) (scl 0 0 zbl none 0 0).toArray 56 := by rw [hW4]; exact k2.alloc _
  have k3' : Below w.heap.size w W4 := by rw [hW4]; exact k3.alloc (by omega) _
  have m1 := k1'.rowOther w1.heap.size (ccells (n + 1) k pb).toArray (by omega)
  have m2 := k2'.rowOther w1.heap.size (ccells (n + 1) k pb).toArray (by omega)
  have m3 := below_setRow k3' (show w.heap.size ≤ w1.heap.size by omega) (ccells (n + 1) k pb).toArray
  have m4 := k4.rowSame (ccells (n + 1) k pb).toArray
  have mc := m1.cell hc1.out
  have K := hidd (And.intro k4 (And.intro m2 (And.intro m4 (And.intro (m2.rowSame (scl (n + 1) k pb a l cap).toArray) (below_setRow m3 (show w.heap.size ≤ w.heap.size + 1 by omega) (scl (n + 1) k pb a l cap).toArray)))))
  clear k1 k2 k3 k4 k1' k2' k3' m1 m2 m3 m4 hb1
  go_upto_region 2 with (first
    | (refine wpList_store_row rfl 28 (.tmp 5) (.tmp 12) rfl w1.heap.size _ rfl rfl 28 _ (Blk.new _ _ _ _ rfl) SZ.out SO.out SA.out ?_))
  rw [← hW4]
  clear hW4
  go_wp2_with (first
    | (refine wpList_load_row rfl 28 (.tmp 5) rfl w1.heap.size rfl 28 _ (0,0) _ K.out.2.2.1 Tryd.underlying28 rfl SZ.out ?_)
    | (refine wpList_build56 HPB.out rfl (.tmp 14) (.tmp 16) rfl rfl rfl ?_)
    | (refine wpList_store_row rfl 56 (.tmp 4) (.tmp 17) rfl (w.heap.size + 1) _ rfl rfl 56 _ K.out.2.1 HS5.out HO5.out HA5.out ?_))
  exact bodyPost_ret (results_cell_row rfl _ _ (w.heap.size + 1) 56 _ (0,0) _ rfl K.out.2.2.2.1 Tryd.underlying56 rfl HS5.out) rfl ⟨rfl, K.out.2.2.2.2⟩
end Go.Proofs.YtckffliiidgilaaDoor
