/- ExchangeColours: what both answer, the rule, the model. -/
import Derived.Test.YtpjegmmichjlbaaOrderMo
import Derived.Test.YtpjegmmichjlbaaTurned
namespace Go.Proofs.Ytpjegmmichjlbaa
set_option linter.unusedVariables false
set_option linter.unusedSimpArgs false
open Go Go.RowKit Go.Shelf
theorem ord_len {zs : List Int} {n : Int} (h : ordB zs n = true) : (zs.length : Int) = n ∧ allB zs n = true ∧ zs.Nodup := by
  unfold ordB at h
  rw [Bool.and_eq_true, Bool.and_eq_true] at h
  exact ⟨of_decide_eq_true h.1, h.2.1, of_decide_eq_true h.2.2⟩
def exCode (n k : Int) (bs : List Nat) (zs : List Int) : Int := if isCol n k bs = true then (if ordB zs k = true then 0 else 2) else 1
def exN (n k : Int) (bs : List Nat) (zs : List Int) : Int := if exCode n k bs zs = 0 then n else 0
def exK (n k : Int) (bs : List Nat) (zs : List Int) : Int := if exCode n k bs zs = 0 then k else 0
def exB (n k : Int) (bs : List Nat) (zs : List Int) : List Nat := if exCode n k bs zs = 0 then paintB n.toNat (fun lo hi => zs.getD (colAt bs lo hi).toNat 0) else zbl
def exOut (n k : Int) (bs : List Nat) (zs : List Int) : Value := .tuple #[.agg (ccells (exN n k bs zs) (exK n k bs zs) (exB n k bs zs)).toArray, .int .i64 (exCode n k bs zs)]
theorem exOut_bad {n k : Int} {bs : List Nat} {zs : List Int} {m : Int} (h : exCode n k bs zs = m) (hm : m ≠ 0) : exOut n k bs zs = .tuple #[.agg (ccells 0 0 zbl).toArray, .int .i64 m] := by
  unfold exOut exN exK exB
  rw [h, if_neg hm, if_neg hm, if_neg hm]
theorem exOut_good {n k : Int} {bs : List Nat} {zs : List Int} (h : exCode n k bs zs = 0) : exOut n k bs zs = .tuple #[.agg (ccells n k (paintB n.toNat (fun lo hi => zs.getD (colAt bs lo hi).toNat 0))).toArray, .int .i64 0] := by
  unfold exOut exN exK exB
  rw [h, if_pos rfl, if_pos rfl, if_pos rfl]
theorem exCode_1 {n k : Int} {bs : List Nat} {zs : List Int} (h : isCol n k bs = false) : exCode n k bs zs = 1 := by simp [exCode, h]
theorem exCode_2 {n k : Int} {bs : List Nat} {zs : List Int} (h : isCol n k bs = true) (h2 : ordB zs k = false) : exCode n k bs zs = 2 := by simp [exCode, h, h2]
theorem exCode_0 {n k : Int} {bs : List Nat} {zs : List Int} (h : isCol n k bs = true) (h2 : ordB zs k = true) : exCode n k bs zs = 0 := by simp [exCode, h, h2]
theorem ex_rng {zs : List Int} {k : Int} (h : allB zs k = true) (hk : k ≤ 17) (x : Nat) : 0 ≤ zs.getD x 0 ∧ zs.getD x 0 < 256 := by
  by_cases hx : x < zs.length
  · have := allB_get h hx; omega
  · rw [List.getD, List.getElem?_eq_none (by omega)]; simp
theorem exB_bys (n k : Int) {bs : List Nat} (zs : List Int) : Bys (exB n k bs zs) := by
  unfold exB
  split
  · rename_i h
    unfold exCode at h
    split at h
    · rename_i hi
      split at h
      · rename_i ho
        have := isCol_bd hi
        exact paintB_bys fun lo hi => ex_rng (ord_len ho).2.1 (by omega) _
      · cases h
    · cases h
  · exact zbl_bys
set_option maxRecDepth 100000 in
set_option maxHeartbeats 2000000 in
theorem rule68 (N : Nat) (k : Int) (bs : List Nat) (hb : Bys bs) (b0 b1 : Nat) (zs : List Int) (a : Option Addr) (cap : Nat) (W : World) (hC : Blk W b1 (ccells (N : Int) k bs).toArray 29) (hB : Blk W b0 #[.slice a zs.length cap] 38) (hs : SlI W a zs)
    (hi : isCol (N : Int) k bs = true) (hk : (zs.length : Int) = k) (lo hi' : Nat) (h1 : lo < hi') (h3 : hi' < N) :
    Calls Try.prog 68 #[.int .i64 (lo : Int), .int .i64 (hi' : Int), .pointer (some ⟨b0, 0, none⟩), .pointer (some ⟨b1, 0, none⟩)] W fun e W' => e = .returned (.int .i64 (zs.getD (colAt bs lo hi').toNat 0)) ∧ Below W.heap.size W W' := by
  have HS := hidd (size_c26 (N : Int) k hb)
  have hbd := isCol_bd hi
  have n2 : (N : Int) ≤ 17 := hbd.2.1
  have hx0 := (colAt_bd hb (lo : Int) (hi' : Int)).1
  have he := colAt_eN bs h1
  have hm := eN_mono (a := hi' + 1) (b := N) (by omega)
  have h17 := eN_17 (n := N) (by omega)
  have hsd : eN (hi' + 1) = eN hi' + hi' := rfl
  have hxk := col_lo hi (i := eN hi' + lo) (by rw [← eN_edg]; omega) (by omega)
  rw [← he] at hxk
  obtain ⟨x, hx⟩ := Int.eq_ofNat_of_zero_le hx0
  have hxl : x < zs.length := by omega
  rcases hs with hz | ⟨b, off, ha, hc⟩
  · subst hz; simp at hxl
  · subst ha
    have hcx := hc x hxl
    have c0 := hB.cell (j := 0) (show _ = some (Value.slice (some ⟨b, off, none⟩) zs.length cap) from rfl)
    obtain ⟨y, hy⟩ : ∃ y, y = zs.getD x 0 := ⟨_, rfl⟩
    rw [← hy] at hcx
    rw [hx, Int.toNat_natCast, ← hy]
    have HX := hidd hx
    have HA := hidd (fun (w' : World) (hw' : Below W.heap.size W w') => And.intro ((hw'.cell (block_lt_of_cell c0)).trans c0) ((hw'.cell (block_lt_of_cell hcx)).trans hcx))
    have HC := hidd hC
    have HNE := hidd (show (lo : Int) ≠ (hi' : Int) by omega)
    clear hc hcx hy hB hC hx he hxk hx0 hm hsd hi c0 hk
    go_enter Try.func68, Try.ntmps68
    go_wp2_with fail
    refine wp_region_last_lit 7 (fun w' => Below W.heap.size W w') rfl rfl (by kernel_rfl) ((Below.refl _ _).drew) (by kernel_rfl) (by kernel_rfl) (by kernel_rfl) ?_
    simp only [List.take_succ_cons, List.take_zero, List.cons_append, List.nil_append, idle]
    refine qs rfl (fun KQ hKQ => ?_)
    apply Exists.intro
    refine ⟨fun w' hw' => ?_, ?_⟩
    · (have e1 := (HA.out w' hw').1; go_simp; exact rfl)
    go_simp
    refine hKQ _ ?_
    clear hKQ KQ
    refine qs rfl (fun KQ hKQ => ?_)
    apply Exists.intro
    refine ⟨fun w' hw' => ?_, ?_⟩
    · (exact quietRow 29 (.tmp 3) rfl b1 rfl 29 _ _ (HC.out.below hw' HC.out.lt) Try.underlying29 rfl HS.out)
    go_simp
    refine hKQ _ ?_
    clear hKQ KQ
    refine qs rfl (fun KQ hKQ => ?_)
    apply Exists.intro
    refine ⟨fun w' hw' => ?_, ?_⟩
    · (go_simp; exact rfl)
    go_simp
    refine hKQ _ ?_
    clear hKQ KQ
    refine qs rfl (fun KQ hKQ => ?_)
    apply Exists.intro
    refine ⟨fun w' hw' => ?_, ?_⟩
    · (go_simp; exact rfl)
    go_simp
    refine hKQ _ ?_
    clear hKQ KQ
    refine qs rfl (fun KQ hKQ => ?_)
    apply Exists.intro
    refine ⟨fun w' hw' => ?_, ?_⟩
    · (go_simp; exact (at59 (N : Int) k bs hb N lo hi' _ n2 (by omega) (by omega) (by omega) (by omega) HNE.out).mono fun _ _ h => ⟨by rw [h.1, HX.out], hw'.trans (h.2.mono hw'.size)⟩)
    go_simp
    refine hKQ _ ?_
    clear hKQ KQ
    refine qs rfl (fun KQ hKQ => ?_)
    apply Exists.intro
    refine ⟨fun w' hw' => ?_, ?_⟩
    · (go_simp; exact rfl)
    go_simp
    refine hKQ _ ?_
    clear hKQ KQ
    refine qs rfl (fun KQ hKQ => ?_)
    apply Exists.intro
    refine ⟨fun w' hw' => ?_, ?_⟩
    · (have e1 := (HA.out w' hw').2; go_simp; exact rfl)
    go_simp
    refine hKQ _ ?_
    clear hKQ KQ
    refine qs rfl (fun KQ hKQ => ?_)
    apply Exists.intro
    refine ⟨fun w' hw' => ?_, ?_⟩
    · (go_simp; exact rfl)
    go_simp
    refine hKQ _ ?_
    clear hKQ KQ
    refine wpQuiet_nil ?_
    intro w' hw'
    have R := hidd hw'
    go_wp2
    go_ret
    exact ⟨rfl, R.out⟩
theorem ruleOf68 (N : Nat) (k : Int) (bs : List Nat) (hb : Bys bs) (b0 b1 : Nat) (zs : List Int) (a : Option Addr) (cap : Nat) (w : World) (hC : Blk w b1 (ccells (N : Int) k bs).toArray 29) (hB : Blk w b0 #[.slice a zs.length cap] 38) (hs : SlI w a zs)
    (hi : isCol (N : Int) k bs = true) (hk : (zs.length : Int) = k) :
    Rule N 68 #[.pointer (some ⟨b0, 0, none⟩), .pointer (some ⟨b1, 0, none⟩)] (fun lo hi => zs.getD (colAt bs lo hi).toNat 0) w := by
  intro x W hbl
  obtain ⟨hx1, hx2, hx3⟩ := x.2
  exact rule68 N k bs hb b0 b1 zs a cap W (hC.below hbl hC.lt) (hB.below hbl hB.lt) (hs.below hbl (Nat.le_refl _)) hi hk x.1.2.1 x.1.2.2 hx2 hx3
end Go.Proofs.Ytpjegmmichjlbaa
