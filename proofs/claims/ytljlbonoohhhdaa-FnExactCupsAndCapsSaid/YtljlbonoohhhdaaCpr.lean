/- Pairs: how they lie; upsideDown. -/
import Derived.Test.YtljlbonoohhhdaaCrw
namespace Go.Proofs.Ytljlbonoohhhdaa
set_option linter.unusedVariables false
set_option linter.unusedSimpArgs false
open Go Go.RowKit Go.Shelf
attribute [local go_sem] Oper.semAt_some
/-- N pairs, two cells each. -/
def pcl (X Y : Nat → Int) : Nat → List Value
  | 0 => []
  | n + 1 => pcl X Y n ++ [.int .i64 (X n), .int .i64 (Y n)]
theorem pcl_len (X Y : Nat → Int) : ∀ n, (pcl X Y n).length = n * 2
  | 0 => rfl
  | n + 1 => by rw [pcl, List.length_append, pcl_len X Y n]; simp; omega
theorem pcl_x (X Y : Nat → Int) : ∀ {n q : Nat}, q < n → (pcl X Y n)[q * 2]? = some (.int .i64 (X q))
  | n + 1, q, h => by
    rw [pcl]
    by_cases e : q = n
    · subst e
      rw [List.getElem?_append_right (by rw [pcl_len]; exact Nat.le_refl _), pcl_len]; simp
    · rw [List.getElem?_append_left (by rw [pcl_len]; omega)]
      exact pcl_x X Y (by omega)
theorem pcl_y (X Y : Nat → Int) : ∀ {n q : Nat}, q < n → (pcl X Y n)[q * 2 + 1]? = some (.int .i64 (Y q))
  | n + 1, q, h => by
    rw [pcl]
    by_cases e : q = n
    · subst e
      rw [List.getElem?_append_right (by rw [pcl_len]; omega), pcl_len]; simp
    · rw [List.getElem?_append_left (by rw [pcl_len]; omega)]
      exact pcl_y X Y (by omega)
/-- A slice of N pairs at the beginning of a block. -/
def Prs (w : World) (g : Nat) (X Y : Nat → Int) (N : Nat) : Prop := Blk w g (pcl X Y N).toArray 78
theorem Prs.x {w : World} {g : Nat} {X Y : Nat → Int} {N : Nat} (h : Prs w g X Y N) {q : Nat} (hq : q < N) : w.cell? ⟨g, q * 2, none⟩ = some (.int .i64 (X q)) := Blk.cell h (by simpa using pcl_x X Y hq)
theorem Prs.y {w : World} {g : Nat} {X Y : Nat → Int} {N : Nat} (h : Prs w g X Y N) {q : Nat} (hq : q < N) : w.cell? ⟨g, q * 2 + 1, none⟩ = some (.int .i64 (Y q)) := Blk.cell h (by simpa using pcl_y X Y hq)
/-- The rest is zeros. -/
def zF (X : Nat → Int) (n q : Nat) : Int := if q < n then X q else 0
theorem info78 : (Try.prog.info? 78).map (fun i => (i.zero, i.size, i.bytes)) = some (some (.agg #[.int .i64 0, .int .i64 0]), 2, 16) := by kernel_rfl
theorem under58 : Try.prog.underlying 58 = some (.slice 78) := by kernel_rfl
theorem pcl_zero (n : Nat) : madeCells #[.int .i64 0, .int .i64 0] (n * 2) = (pcl (fun _ => 0) (fun _ => 0) n).toArray := by
  apply Array.ext
  · rw [size_madeCells]; simp [pcl_len]
  · intro q h1 h2
    have h3 : (pcl (fun _ => 0) (fun _ => 0) n)[q]? = some (.int .i64 0) := by
      rw [size_madeCells] at h1
      rcases Nat.mod_two_eq_zero_or_one q with e | e
      · have := pcl_x (fun _ => 0) (fun _ => 0) (n := n) (q := q / 2) (by omega)
        rwa [show q / 2 * 2 = q by omega] at this
      · have := pcl_y (fun _ => 0) (fun _ => 0) (n := n) (q := q / 2) (by omega)
        rwa [show q / 2 * 2 + 1 = q by omega] at this
    have h4 : (pcl (fun _ => 0) (fun _ => 0) n).toArray[q] = .int .i64 0 := by
      have := List.getElem?_eq_some_iff.1 h3
      obtain ⟨_, h⟩ := this
      simpa using h
    rw [h4]
    simp only [madeCells, Array.getElem_map, Array.getElem_range]
    rcases Nat.mod_two_eq_zero_or_one q with e | e
    · rw [show q % #[Value.int IntKind.i64 0, Value.int IntKind.i64 0].size = 0 from e]; rfl
    · rw [show q % #[Value.int IntKind.i64 0, Value.int IntKind.i64 0].size = 1 from e]; rfl
theorem make58 (n : Nat) (h : n ≤ 1048576) (w : World) : (Instr.makeSlice 58 (.int .i64 n) (.int .i64 n)).run Try.prog w = .ok (.slice (some ⟨w.heap.size, 0, none⟩) n n) (w.alloc (.cells (pcl (fun _ => 0) (fun _ => 0) n).toArray 78)) := by
  obtain ⟨i, hi, hz0, hz1, hz2⟩ := info_parts info78
  have := run_make (P := Try.prog) w 58 78 i (.agg #[.int .i64 0, .int .i64 0]) under58 hi hz0 .i64 .i64 n n (by omega) (by omega) (by rw [hz2]; omega) (by omega)
  rw [this]
  simp only [Int.toNat_natCast, hz1]
  rw [show (Value.agg #[Value.int IntKind.i64 0, Value.int IntKind.i64 0]).cells = #[Value.int IntKind.i64 0, Value.int IntKind.i64 0] by rfl, pcl_zero]
/-- One pair more. -/
theorem pcl_set {X Y F G : Nat → Int} {n q : Nat} (x y : Int) (hx : F q = x) (hy : G q = y) (h : ∀ r, r < n → r ≠ q → F r = X r ∧ G r = Y r) (hq : q < n) : ((pcl X Y n).set (q * 2) (.int .i64 x)).set (q * 2 + 1) (.int .i64 y) = pcl F G n := by
  apply List.ext_getElem?
  intro j
  rcases Nat.lt_or_ge j (n * 2) with hj | hj
  · rcases Nat.mod_two_eq_zero_or_one j with e | e
    · obtain ⟨r, rfl⟩ : ∃ r, j = r * 2 := ⟨j / 2, by omega⟩
      rw [pcl_x F G (by omega), List.getElem?_set_ne (by omega)]
      by_cases er : r = q
      · subst er; rw [List.getElem?_set_self (by rw [pcl_len]; omega), hx]
      · rw [List.getElem?_set_ne (by omega), pcl_x X Y (by omega), (h r (by omega) er).1]
    · obtain ⟨r, rfl⟩ : ∃ r, j = r * 2 + 1 := ⟨j / 2, by omega⟩
      rw [pcl_y F G (by omega)]
      by_cases er : r = q
      · subst er; rw [List.getElem?_set_self (by rw [List.length_set, pcl_len]; omega), hy]
      · rw [List.getElem?_set_ne (by omega), List.getElem?_set_ne (by omega), pcl_y X Y (by omega), (h r (by omega) er).2]
  · rw [List.getElem?_eq_none (by simp only [List.length_set, pcl_len]; omega), List.getElem?_eq_none (by rw [pcl_len]; omega)]
/-- The pairs as far as they are made, all that lay before as it was. -/
def RelPr (X Y : Nat → Int) (N : Nat) (w wr : World) : Prop := Prs wr w.heap.size X Y N ∧ Below w.heap.size w wr
theorem RelPr.more {X Y : Nat → Int} {N : Nat} {w wr w2 : World} (h : RelPr X Y N w wr) (hb : Below wr.heap.size wr w2) : RelPr X Y N w w2 := ⟨Blk.below h.1 hb (Blk.lt h.1), h.2.trans (hb.mono h.2.size)⟩
theorem RelPr.store {X Y F G : Nat → Int} {N q : Nat} {w wr : World} {x y : Int} (h : RelPr X Y N w wr) (hx : F q = x) (hy : G q = y) (hf : ∀ r, r < N → r ≠ q → F r = X r ∧ G r = Y r) (hq : q < N) :
    RelPr F G N w ((wr.setCell ⟨w.heap.size, q * 2, none⟩ (.int .i64 x)).setCell ⟨w.heap.size, q * 2 + 1, none⟩ (.int .i64 y)) := by
  refine ⟨?_, (h.2.setCell (p := ⟨w.heap.size, q * 2, none⟩) (Nat.le_refl _) _).setCell (p := ⟨w.heap.size, q * 2 + 1, none⟩) (Nat.le_refl _) _⟩
  have s1 := Blk.same h.1 (q * 2) (.int .i64 x)
  have s2 := s1.same (q * 2 + 1) (.int .i64 y)
  unfold Prs
  rw [← pcl_set x y hx hy hf hq]
  simpa using s2
set_option maxRecDepth 100000 in
set_option maxHeartbeats 2000000 in
theorem upside40 (X Y : Nat → Int) (N : Nat) (h1 : 1 ≤ N) (hN : N ≤ 17) (hY : ∀ q, q < N → In1 (Y q)) (g : Nat) (w : World) (hP : Prs w g X Y N) :
    Calls Try.prog 40 #[.slice (some ⟨g, 0, none⟩) N N] w fun e w' => e = .returned (.slice (some ⟨w.heap.size, 0, none⟩) N N) ∧ Prs w' w.heap.size X (fun q => - Y q) N ∧ Below w.heap.size w w' := by
  have hmk := make58 N (by omega)
  have HP := hidd hP
  have HY := hidd hY
  have HR0 := hidd (show RelPr (zF X 0) (zF (fun q => - Y q) 0) N w (w.alloc (.cells (pcl (fun _ => 0) (fun _ => 0) N).toArray 78)) from
    ⟨by
      have e1 : (zF X 0) = fun _ => (0 : Int) := by funext q; simp [zF]
      have e2 : (zF (fun q => - Y q) 0) = fun _ => (0 : Int) := by funext q; simp [zF]
      rw [e1, e2]; exact Blk.new _ _ _ _ rfl, (Below.refl _ _).alloc (Nat.le_refl _) _⟩)
  clear hP hY
  go_enter Try.func40, Try.ntmps40
  go_wp2_with fail
  clear hmk
  go_loopw [11] (fun e wr => ∃ q : Nat, q ≤ N ∧ e = .int .i64 (q : Int) ∧ RelPr (zF X q) (zF (fun q => - Y q) q) N w wr) (fun e _ => N - (intOf e).toNat)
  case atStart => exact ⟨0, Nat.zero_le _, rfl, HR0.out⟩
  case round =>
    obtain ⟨q, hq, rfl, HR⟩ := hrel
    have HK := hidd HR
    clear HR
    by_cases hlt : q < N
    · have PW := Blk.below HP.out HK.out.2 (Blk.lt HP.out)
      have cx := Prs.x PW hlt
      have cy := Prs.y PW hlt
      have hyb := HY.out q hlt
      unfold In1 at hyb
      have HN := hidd (fun (wX : World) (h : RelPr (zF X q) (zF (fun q => - Y q) q) N w wX) => h.store (F := zF X (q + 1)) (G := zF (fun q => - Y q) (q + 1)) (q := q) (x := X q) (y := - Y q) (by simp [zF]) (by simp [zF]) (fun r _ hr => by
        unfold zF
        by_cases h : r < q
        · rw [if_pos (by omega), if_pos h, if_pos (by omega), if_pos h]; exact ⟨rfl, rfl⟩
        · rw [if_neg (by omega), if_neg h, if_neg (by omega), if_neg h]; exact ⟨rfl, rfl⟩) hlt)
      obtain ⟨x, hx⟩ : ∃ x, x = X q := ⟨_, rfl⟩
      obtain ⟨y, hy⟩ : ∃ y, y = Y q := ⟨_, rfl⟩
      rw [← hx] at cx HN
      rw [← hy] at cy hyb HN
      have hwy : IntKind.i64.wrap (-y) = -y := IntWalk.i64_in _ (by omega)
      have hA := HK.out.more ((Below.refl wr.heap.size wr).alloc (Nat.le_refl _) (.cells #[.int .i64 x, .int .i64 y] 78))
      have d0 := Prs.x hA.1 hlt
      have d1 := Prs.y hA.1 hlt
      have f0 := Blk.fro hA.1 (q * 2)
      have f1 := Blk.fro hA.1 (q * 2 + 1)
      have HS := hidd (HN.out _ hA)
      obtain ⟨u0, hu0⟩ : ∃ u, u = zF X q q := ⟨_, rfl⟩
      obtain ⟨u1, hu1⟩ : ∃ u, u = zF (fun q => - Y q) q q := ⟨_, rfl⟩
      rw [← hu0] at d0
      rw [← hu1] at d1
      clear hx hy PW hA hu0 hu1
      go_wp2_with fail
      go_roundw
      case rel => exact ⟨q + 1, by omega, by go_num, HS.out⟩
      case measure => simp [intOf]; omega
    · obtain rfl : q = N := by omega
      have HF := hidd (show Prs wr w.heap.size X (fun q => - Y q) q by
        have h := HK.out.1
        unfold Prs at h ⊢
        have e : ∀ (F : Nat → Int) (G : Nat → Int) (n : Nat), pcl (zF F n) (zF G n) n = pcl F G n := fun F G n => by
          have : ∀ k, k ≤ n → pcl (zF F n) (zF G n) k = pcl F G k := by
            intro k
            induction k with
            | zero => intro _; rfl
            | succ k ih =>
              intro hk
              rw [pcl, pcl, ih (by omega)]
              simp [zF, show k < n by omega]
          exact this n (Nat.le_refl _)
        rw [e] at h
        exact h)
      go_wp2_with fail
      go_ret
      exact ⟨rfl, HF.out, HK.out.2⟩
end Go.Proofs.Ytljlbonoohhhdaa
