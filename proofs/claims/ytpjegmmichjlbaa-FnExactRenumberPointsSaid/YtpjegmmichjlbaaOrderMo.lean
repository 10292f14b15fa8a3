/- Orders: the model's test. -/
import Derived.Test.YtpjegmmichjlbaaOrder
namespace Go.Proofs.Ytpjegmmichjlbaa
set_option linter.unusedVariables false
set_option linter.unusedSimpArgs false
open Go Go.RowKit Go.Shelf
theorem info4 : (Try.prog.info? 4).map (fun i => (i.zero, i.size, i.bytes)) = some (some (.bool false), 1, 1) := by kernel_rfl
def metC (N : Nat) (zs : List Int) (j : Nat) : Array Value := ((List.range N).map fun q => Value.bool (memB (zs.take j) q)).toArray
theorem metC_get {N : Nat} {zs : List Int} {j q : Nat} (h : q < N) : (metC N zs j)[q]? = some (.bool (memB (zs.take j) q)) := by simp [metC, h]
theorem metC_0 (N : Nat) (zs : List Int) : madeCells #[.bool false] N = metC N zs 0 := by
  apply Array.ext'
  rw [toList_madeCells_one]
  show List.replicate N (Value.bool false) = (List.range N).map fun q => Value.bool (memB (zs.take 0) q)
  apply List.ext_getElem
  · simp
  · intro i h1 h2
    simp [memB]
theorem metC_step {N : Nat} {zs : List Int} {j q : Nat} (hj : j < zs.length) (hq : zs.getD j 0 = (q : Int)) : (metC N zs j).setIfInBounds q (.bool true) = metC N zs (j + 1) := by
  have hg : zs.getD j 0 = zs[j] := by simp [List.getD, List.getElem?_eq_getElem hj]
  apply Array.ext_getElem?
  intro i
  rw [Array.getElem?_setIfInBounds]
  by_cases hi : i < N
  · rw [metC_get hi]
    by_cases e : q = i
    · subst e
      rw [if_pos rfl, if_pos (by simpa [metC] using hi)]
      have : memB (zs.take (j + 1)) q = true := by
        rw [List.take_succ_eq_append_getElem hj]
        exact decide_eq_true (List.mem_append.2 (.inr (List.mem_singleton.2 (by rw [← hg, hq]))))
      rw [metC_get hi, this]
    · simp only [if_neg e, metC_get hi]
      have : memB (zs.take (j + 1)) i = memB (zs.take j) i := by
        rw [List.take_succ_eq_append_getElem hj]
        unfold memB
        congr 1
        simp only [List.mem_append, List.mem_singleton, ← hg, hq, eq_iff_iff]
        constructor
        · rintro (h | h)
          · exact h
          · omega
        · exact fun h => .inl h
      rw [this]
  · have h1 : (metC N zs j)[i]? = none := by rw [Array.getElem?_eq_none_iff]; simp [metC]; omega
    have h2 : (metC N zs (j + 1))[i]? = none := by rw [Array.getElem?_eq_none_iff]; simp [metC]; omega
    rw [h1, h2]
    split
    · rw [if_neg (by simp [metC]; omega)]
    · rfl
theorem make85 (n : Nat) (h : n ≤ 1048576) (zs : List Int) (w : World) : (Instr.makeSlice 85 (.int .i64 n) (.int .i64 n)).run Try.prog w = .ok (.slice (some ⟨w.heap.size, 0, none⟩) n n) (w.alloc (.cells (metC n zs 0) 4)) := by
  obtain ⟨i, hi, hz0, hz1, hz2⟩ := info_parts info4
  have := run_make (P := Try.prog) w 85 4 i (.bool false) Try.underlying85 hi hz0 .i64 .i64 n n (by omega) (by omega) (by rw [hz2]; omega) (by omega)
  rw [this, hz1, ← metC_0 n zs]
  simp [Value.cells]
def Ord (zs : List Int) (n : Int) (j : Nat) : Prop := (∀ z ∈ zs.take j, belowB z n = true) ∧ (zs.take j).Nodup
theorem Ord.step {zs : List Int} {n : Int} {j : Nat} (h : Ord zs n j) (hj : j < zs.length) (h1 : belowB (zs.getD j 0) n = true) (h2 : ¬ zs.getD j 0 ∈ zs.take j) : Ord zs n (j + 1) := by
  have hg : zs.getD j 0 = zs[j] := by simp [List.getD, List.getElem?_eq_getElem hj]
  unfold Ord
  rw [List.take_succ_eq_append_getElem hj, ← hg]
  refine ⟨fun z hz => ?_, ?_⟩
  · rcases List.mem_append.1 hz with hz | hz
    · exact h.1 z hz
    · rw [List.mem_singleton.1 hz]; exact h1
  · rw [List.nodup_append]
    refine ⟨h.2, by simp, fun a ha b hb e => ?_⟩
    rw [List.mem_singleton.1 hb] at e
    subst e; exact h2 ha
theorem Ord.done {zs : List Int} {n : Int} (h : Ord zs n zs.length) : ordB zs n = decide ((zs.length : Int) = n) := by
  unfold Ord at h
  rw [List.take_length] at h
  unfold ordB
  rw [allB_mem.2 h.1, decide_eq_true h.2]; simp
theorem ord_out {zs : List Int} {n : Int} {j : Nat} (hj : j < zs.length) (h : belowB (zs.getD j 0) n = false) : ordB zs n = false := by
  unfold ordB; rw [allB_no hj h]; simp
theorem ord_twice {zs : List Int} {n : Int} {j : Nat} (hj : j < zs.length) (h : zs.getD j 0 ∈ zs.take j) : ordB zs n = false := by
  have hg : zs.getD j 0 = zs[j] := by simp [List.getD, List.getElem?_eq_getElem hj]
  have hn : ¬ zs.Nodup := fun hn => by
    rw [← List.take_append_drop j zs, List.nodup_append] at hn
    refine hn.2.2 _ h _ ?_ rfl
    rw [hg, List.mem_drop_iff_getElem]
    exact ⟨0, by omega, by simp⟩
  unfold ordB; rw [decide_eq_false hn]; simp
def RelOr (N : Nat) (zs : List Int) (a : Option Addr) (w : World) (j : Nat) (wr : World) : Prop := Blk wr w.heap.size (metC N zs j) 4 ∧ SlI wr a zs ∧ Below w.heap.size w wr
set_option maxRecDepth 100000 in
set_option maxHeartbeats 1000000 in
theorem order63 (zs : List Int) (a : Option Addr) (cap : Nat) (n : Int) (w : World) (hs : SlI w a zs) (hl : zs.length ≤ 9223372036854775807) (n1 : 1 ≤ n) (n2 : n ≤ 17) :
    Calls Try.prog 63 #[.slice a zs.length cap, .int .i64 n] w fun e w' => e = .returned (.bool (ordB zs n)) ∧ Below w.heap.size w w' := by
  obtain ⟨N, rfl⟩ := Int.eq_ofNat_of_zero_le (show 0 ≤ n by omega)
  have hmk := make85 N (by omega) zs
  have HSL := hidd hs
  clear hs
  go_enter Try.func63, Try.ntmps63
  go_wp2_with fail
  clear hmk
  go_loopw [6] (fun e wr => ∃ j : Nat, j ≤ zs.length ∧ e = .int .i64 j ∧ Hid (Ord zs (N : Int) j) ∧ RelOr N zs a w j wr) (fun e _ => zs.length - (intOf e).toNat)
  case atStart =>
    have hb := (Below.refl w.heap.size w).alloc (Nat.le_refl _) (.cells (metC N zs 0) 4)
    exact ⟨0, by omega, rfl, ⟨by simp, by simp⟩, Blk.new _ _ _ _ rfl, HSL.out.below hb (Nat.le_refl _), hb⟩
  case round =>
    obtain ⟨j, hj, rfl, HO, HR⟩ := hrel
    have HK := hidd HR
    clear HR
    by_cases hlt : j < zs.length
    · rcases HK.out.2.1 with hz | ⟨b, off, ha, hc⟩
      · subst hz; simp at hlt
      · subst ha
        have hcj := hc j hlt
        obtain ⟨z, hz⟩ : ∃ z, z = zs.getD j 0 := ⟨_, rfl⟩
        rw [← hz] at hcj
        have HZ := hidd hz
        clear hc hz
        cases hin : belowB z (N : Int) with
        | false =>
          have HB := hidd (show inB z 0 ((N : Int) - 1) = false from hin)
          have HF := hidd (ord_out (n := (N : Int)) hlt (by rw [← HZ.out]; exact hin))
          clear hin
          go_wp2_with (go_at_call 39; refine (in49 _ _ _ _).mono ?_; rintro e w' ⟨rfl, rfl⟩; rw [HB.out])
          go_ret
          exact ⟨by rw [HF.out]; rfl, HK.out.2.2⟩
        | true =>
          have HB := hidd (show inB z 0 ((N : Int) - 1) = true from hin)
          obtain ⟨z0, z1⟩ := inB_bd hin
          obtain ⟨q, rfl⟩ := Int.eq_ofNat_of_zero_le z0
          have hqN : q < N := by omega
          have cm := HK.out.1.cell (metC_get (zs := zs) (j := j) hqN)
          have fm := HK.out.1.fro q
          by_cases hmem : (q : Int) ∈ zs.take j
          · have HF := hidd (ord_twice (n := (N : Int)) hlt (by rw [← HZ.out]; exact hmem))
            rw [show memB (zs.take j) q = true from decide_eq_true hmem] at cm
            clear hin hmem
            go_wp2_with (go_at_call 39; refine (in49 _ _ _ _).mono ?_; rintro e w' ⟨rfl, rfl⟩; rw [HB.out])
            go_ret
            exact ⟨by rw [HF.out]; rfl, HK.out.2.2⟩
          · have HO2 := hidd (HO.out.step hlt (by rw [← HZ.out]; exact hin) (by rw [← HZ.out]; exact hmem))
            rw [show memB (zs.take j) q = false from decide_eq_false hmem] at cm
            have s := HK.out.1.same q (.bool true)
            rw [metC_step hlt HZ.out.symm] at s
            have hbe := HK.out.2.2.setCell (p := ⟨w.heap.size, q, none⟩) (by show w.heap.size ≤ w.heap.size; omega) (.bool true)
            have K := hidd (show RelOr N zs (some ⟨b, off, none⟩) w (j + 1) _ from ⟨s, HSL.out.below hbe (Nat.le_refl _), hbe⟩)
            clear hin hmem s hbe
            go_wp2_with (go_at_call 39; refine (in49 _ _ _ _).mono ?_; rintro e w' ⟨rfl, rfl⟩; rw [HB.out])
            go_roundw
            case rel => exact ⟨j + 1, by omega, by go_num, HO2, K.out⟩
            case measure => simp [intOf]; omega
    · have hje : j = zs.length := by omega
      subst hje
      have HF := hidd HO.out.done
      go_wp2_with fail
      go_ret
      exact ⟨by rw [HF.out]; rfl, HK.out.2.2⟩
end Go.Proofs.Ytpjegmmichjlbaa
