/- LeastPosition: the program, where it has an error; the call of renumberings. -/
import Derived.Test.YtidengcihakijaaCpr
namespace Go.Proofs.Ytidengcihakijaa
set_option linter.unusedVariables false
set_option linter.unusedSimpArgs false
open Go Go.RowKit Go.Shelf
/-- What enterGame hands on, as cells. -/
theorem en_cells (n : Int) (zs : List Int) : ∃ V : Array Value, enV n zs = .agg V ∧ (Try.prog.info? 44).map (·.size) = some V.size ∧ (psC 0 0 0).size = V.size ∧ V.all (·.oneCell') = true := by
  by_cases h : gmCode n zs = 0
  · exact ⟨psZ n.toNat zs, en_0 h, size40, rfl, one_ps _ _ _⟩
  · exact ⟨psC 0 0 0, if_neg h, size40, rfl, one_ps _ _ _⟩
theorem at20 (n : Int) (w : World) :
    Calls Try.prog 20 #[.int .i64 n, .slice none 0 0] w fun e w' => e = .returned (.func (.func 38) #[] #[.pointer (some ⟨w.heap.size + 1, 0, none⟩), .pointer (some ⟨w.heap.size, 0, none⟩)]) ∧ Blk w' (w.heap.size + 1) #[.slice none 0 0] 22 ∧ Blk w' w.heap.size #[.int .i64 n] 2 ∧ Below w.heap.size w w' := by
  have hmf : ∀ (fn : Fn) (first cap : Array Value) (w : World), (Instr.makeFunc fn first cap).run Try.prog w = .ok (.func fn first cap) w := fun _ _ _ _ => rfl
  have hbb := hidd (((Below.refl w.heap.size w).alloc (Nat.le_refl _) (.cells #[.int .i64 n] 2)).alloc (by simp) (.cells #[.slice none 0 0] 22))
  have h1 := hidd ((Blk.new w #[.int .i64 n] 2 _ rfl).alloc (.cells #[.slice none 0 0] 22))
  have h2 := hidd (Blk.new (w.alloc (.cells #[.int .i64 n] 2)) #[.slice none 0 0] 22 (w.heap.size + 1) (by simp))
  go_enter Try.func20, Try.ntmps20
  go_wp2_with fail
  go_ret
  exact ⟨rfl, h2.out, h1.out, hbb.out⟩
theorem ord_beg : ∀ N, N ∈ [1, 2, 3, 4, 5, 6] → (ordM N N []).all (fun x => decide (x.Nodup) && x.all fun z => decide (0 ≤ z ∧ z < (N : Int))) = true := by decide +kernel
theorem ord_ordr {N : Nat} (h1 : 1 ≤ N) (h6 : N ≤ 6) {x : List Int} (hx : x ∈ ordM N N []) : Ordr N x := by
  have ha := List.all_eq_true.1 (ord_beg N (by simp; omega)) x hx
  have hl := List.all_eq_true.1 (ord_len N (by simp; omega)).2 x hx
  simp only [Bool.and_eq_true, decide_eq_true_eq, List.all_eq_true] at ha hl
  exact ⟨hl, ha.1, fun z hz => ha.2 z hz⟩
set_option maxRecDepth 100000 in
set_option maxHeartbeats 2000000 in
theorem impl7_bad (n : Int) (zs : List Int) (b cap : Nat) (w : World) (hs : SlI w (some ⟨b, 0, none⟩) zs) (hl : zs.length ≤ 1048576) (h0 : gmCode n zs ≠ 0) :
    Calls Try.prog 7 #[.int .i64 n, .slice (some ⟨b, 0, none⟩) zs.length cap] w (LOut w (lpLs n zs) (gmCode n zs)) := by
  have hv : lpLs n zs = [] := if_neg h0
  rw [hv]
  obtain ⟨V, hV, hVs, hV0, hV1⟩ := en_cells n zs
  have HE := hidd (fun W h => enter30 n zs (some ⟨b, 0, none⟩) cap W h (by omega))
  rw [hV] at HE
  have HVS := hidd (And.intro hVs (And.intro hV0 hV1))
  have HSL := hidd hs
  have Hz := zero40
  obtain ⟨cd, hcd⟩ : ∃ cd, cd = gmCode n zs := ⟨_, rfl⟩
  rw [← hcd] at HE h0 ⊢
  have hz : (cd != 0) = true := by rw [bne_iff_ne]; exact h0
  have HB0 := hidd (((Below.refl w.heap.size w).alloc (Nat.le_refl _) (.cells #[.int .i64 n] 2)).alloc (by simp) (.cells #[.slice (some ⟨b, 0, none⟩) zs.length cap] 22))
  clear hs hl hcd h0 hv hV hVs hV0 hV1
  go_enter Try.func7, Try.ntmps7
  go_wp2_with fail
  refine (HE.out _ (HSL.out.below HB0.out (Nat.le_refl _))).mono ?_
  rintro x w1 ⟨rfl, hb1⟩
  have hb := HB0.out.trans (hb1.mono HB0.out.size)
  have G3 := hidd (show Blk (w1.alloc (.cells (psC 0 0 0) 44)) w1.heap.size (psC 0 0 0) 44 from Blk.new _ _ _ _ rfl)
  have G4 := hidd (show Below w.heap.size w ((w1.alloc (.cells (psC 0 0 0) 44)).setRow w1.heap.size V) from below_setRow (hb.alloc hb.size _) hb.size _)
  clear hb1 hb
  go_wp2_with (refine wpList_store_row rfl 44 (.tmp 6) (.tmp 15) rfl w1.heap.size V rfl rfl 44 _ G3.out HVS.out.1 HVS.out.2.1 HVS.out.2.2 ?_)
  go_ret2
  exact lout_nil rfl G4.out
end Go.Proofs.Ytidengcihakijaa
