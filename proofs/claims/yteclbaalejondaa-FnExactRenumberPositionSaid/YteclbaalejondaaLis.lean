/- The list of a position: the program. -/
import Derived.Test.YteclbaalejondaaSfi
namespace Go.Proofs.Yteclbaalejondaa
set_option linter.unusedVariables false
set_option linter.unusedSimpArgs false
open Go Go.RowKit Go.Shelf
def b01 (P : Int) (zs : List Int) (j : Nat) : Int := if pw P zs j = true then 1 else 0
theorem b01_val {zs : List Int} (h : allW zs = true) {j : Nat} (hj : j < zs.length) : b01 0 zs j + 2 * b01 1 zs j - 1 = zs.getD j 0 := by
  have hz := allW_get h hj
  unfold b01 pw
  rcases (show zs.getD j 0 = -1 ∨ zs.getD j 0 = 0 ∨ zs.getD j 0 = 1 by omega) with e | e | e <;> rw [e] <;> rfl
theorem b01_bd (P : Int) (zs : List Int) (j : Nat) : 0 ≤ b01 P zs j ∧ b01 P zs j ≤ 1 := by unfold b01; split <;> omega
theorem u16_bit_val {P : Int} {zs : List Int} (hl : zs.length ≤ 10) {j : Nat} (hj : j < zs.length) : bits .and .u16 ((tkn P zs zs.length : Int) / 2 ^ j) 1 = b01 P zs j := by
  have hS := tkn_lt (P := P) (zs := zs) hl
  have hb := tkn_bit (P := P) hj
  generalize tkn P zs zs.length = S at *
  have e : ((S : Int) / 2 ^ j) = ((S / 2 ^ j : Nat) : Int) := by simp
  have hlt : S / 2 ^ j < 65536 := Nat.lt_of_le_of_lt (Nat.div_le_self _ _) (by omega)
  rw [e]
  have := u16_and_nat (S / 2 ^ j) 1 hlt (by omega)
  simp only [Nat.and_one_is_mod] at this
  rw [show ((1 : Nat) : Int) = 1 from rfl] at this
  rw [this]
  rw [Nat.testBit_eq_decide_div_mod_eq] at hb
  unfold b01
  rw [← hb]
  have h2 := Nat.mod_two_eq_zero_or_one (S / 2 ^ j)
  rcases h2 with h | h <;> rw [h] <;> rfl
def RelLi (V : Array Value) (zs : List Int) (w : World) (k : Nat) (C : Array Value) (wr : World) : Prop := Blk wr w.heap.size V 40 ∧ Blk wr (w.heap.size + 1) C 2 ∧ Cin zs k C ∧ Below w.heap.size w wr
set_option maxRecDepth 100000 in
set_option maxHeartbeats 4000000 in
theorem list47 (N : Nat) (zs : List Int) (hN1 : 1 ≤ N) (hN : N ≤ 5) (hlen : zs.length = eN N) (hall : allW zs = true) (w : World) :
    Calls Try.prog 47 #[psL N zs] w (LOne w zs) := by
  have hl10 : zs.length ≤ 10 := by rw [hlen]; exact Nat.le_trans (eN_mono hN) (by decide)
  have hmk := make29 zs.length (by omega)
  have HL := hidd (show (zs.length : Int) = edg (N : Int) by rw [← eN_edg, hlen])
  have HB0 := hidd (fun j (hj : j < zs.length) => u16_bit_val (P := 0) hl10 hj)
  have HB1 := hidd (fun j (hj : j < zs.length) => u16_bit_val (P := 1) hl10 hj)
  have HBV := hidd (fun j (hj : j < zs.length) => b01_val hall hj)
  have hV : psL N zs = .agg (psC (N : Int) (tkn 0 zs zs.length) (tkn 1 zs zs.length)) := rfl
  rw [hV]
  generalize tkn 0 zs zs.length = t0 at *
  generalize tkn 1 zs zs.length = t1 at *
  obtain ⟨V, hVV⟩ : ∃ V, V = psC (N : Int) t0 t1 := ⟨_, rfl⟩
  have HV0 := hidd (show V[0]? = some (Value.int .i64 (N : Int)) by rw [hVV]; rfl)
  have HV1 := hidd (show V[1]? = some (Value.int .u16 (t0 : Int)) by rw [hVV]; rfl)
  have HV2 := hidd (show V[2]? = some (Value.int .u16 (t1 : Int)) by rw [hVV]; rfl)
  rw [← hVV]
  have HR0 := hidd (show RelLi V zs w 0 (zrow zs.length) ((w.alloc (.cells V 40)).alloc (.cells (zrow zs.length) 2)) from
    ⟨(Blk.new _ _ _ _ rfl).alloc _, Blk.new _ _ _ _ (by simp), ⟨zrow_size _, fun j hj => absurd hj (by omega)⟩, ((Below.refl _ _).alloc (Nat.le_refl _) _).alloc (by simp) _⟩)
  have c0 := (Blk.new w V 40 _ rfl).cell HV0.out
  clear hV hVV hlen hall
  go_enter Try.func47, Try.ntmps47
  go_wp2_with (go_at_call 44; refine (edge48 (N : Int) _ (by omega) (by omega)).mono ?_; rintro e w' ⟨rfl, rfl⟩; rw [← HL.out])
  clear hmk c0
  go_loopw [4, 11] (fun x i wr => ∃ k : Nat, k ≤ zs.length ∧ i = .int .i64 k ∧ Hid (∃ C, RelLi V zs w k C wr)) (fun _ i _ => zs.length - (intOf i).toNat)
  case atStart => exact ⟨0, by omega, rfl, _, HR0.out⟩
  case round =>
    obtain ⟨j, hj, rfl, HD⟩ := hrel
    obtain ⟨C, HK0⟩ := HD.out
    have HK := hidd HK0
    clear HD HK0
    by_cases hlt : j < zs.length
    · have hb0 := HB0.out j hlt
      have hb1 := HB1.out j hlt
      have hbv := HBV.out j hlt
      have bd0 := b01_bd 0 zs j
      have bd1 := b01_bd 1 zs j
      have hst := HK.out.2.2.1.step hlt
      generalize b01 0 zs j = x0 at *
      generalize b01 1 zs j = x1 at *
      obtain ⟨z, hz⟩ : ∃ z, z = zs.getD j 0 := ⟨_, rfl⟩
      rw [← hz] at hbv hst
      have HST := hidd hst
      have hmin : min j 16 = j := by omega
      have hw0 : IntKind.i64.wrap x0 = x0 := IntWalk.i64_in _ (by omega)
      have hw1 : IntKind.i64.wrap x1 = x1 := IntWalk.i64_in _ (by omega)
      have hw2 : IntKind.i64.wrap (2 * x1) = 2 * x1 := IntWalk.i64_in _ (by omega)
      have hw3 : IntKind.i64.wrap (x0 + 2 * x1) = x0 + 2 * x1 := IntWalk.i64_in _ (by omega)
      have hw4 : IntKind.i64.wrap (x0 + 2 * x1 - 1) = z := by rw [← hbv]; exact IntWalk.i64_in _ (by omega)
      have hj0 : (0 : Int) ≤ (j : Int) := by omega
      clear hz hst hbv
      go_wp2_with fail
      refine wp_region_last_lit 20 (fun w' => Blk w' w.heap.size V 40 ∧ Blk w' (w.heap.size + 1) C 2 ∧ Below w.heap.size w w') rfl rfl (by kernel_rfl) ⟨HK.out.1.drew, HK.out.2.1.drew, HK.out.2.2.2.drew⟩ (by kernel_rfl) (by kernel_rfl) (by kernel_rfl) ?_
      simp only [List.take_succ_cons, List.take_zero, List.cons_append, List.nil_append, idle]
      refine qs rfl (fun KQ hKQ => ?_)
      apply Exists.intro
      refine ⟨fun w' hw' => ?_, ?_⟩
      · go_simp; exact rfl
      go_simp
      refine hKQ _ ?_
      clear hKQ KQ
      refine qs rfl (fun KQ hKQ => ?_)
      apply Exists.intro
      refine ⟨fun w' hw' => ?_, ?_⟩
      · go_simp; exact rfl
      go_simp
      refine hKQ _ ?_
      clear hKQ KQ
      refine qs rfl (fun KQ hKQ => ?_)
      apply Exists.intro
      refine ⟨fun w' hw' => ?_, ?_⟩
      · go_simp; exact rfl
      go_simp
      refine hKQ _ ?_
      clear hKQ KQ
      refine qs rfl (fun KQ hKQ => ?_)
      apply Exists.intro
      refine ⟨fun w' hw' => ?_, ?_⟩
      · go_simp; exact rfl
      go_simp
      refine hKQ _ ?_
      clear hKQ KQ
      refine qs rfl (fun KQ hKQ => ?_)
      apply Exists.intro
      refine ⟨fun w' hw' => ?_, ?_⟩
      · have c1 := hw'.1.cell HV1.out; go_simp; exact rfl
      go_simp
      refine hKQ _ ?_
      clear hKQ KQ
      refine qs rfl (fun KQ hKQ => ?_)
      apply Exists.intro
      refine ⟨fun w' hw' => ?_, ?_⟩
      · go_simp; exact rfl
      go_simp
      refine hKQ _ ?_
      clear hKQ KQ
      refine qs rfl (fun KQ hKQ => ?_)
      apply Exists.intro
      refine ⟨fun w' hw' => ?_, ?_⟩
      · go_simp; exact rfl
      go_simp
      refine hKQ _ ?_
      clear hKQ KQ
      refine qs rfl (fun KQ hKQ => ?_)
      apply Exists.intro
      refine ⟨fun w' hw' => ?_, ?_⟩
      · go_simp; exact rfl
      go_simp
      refine hKQ _ ?_
      clear hKQ KQ
      refine qs rfl (fun KQ hKQ => ?_)
      apply Exists.intro
      refine ⟨fun w' hw' => ?_, ?_⟩
      · go_simp; exact rfl
      go_simp
      refine hKQ _ ?_
      clear hKQ KQ
      refine qs rfl (fun KQ hKQ => ?_)
      apply Exists.intro
      refine ⟨fun w' hw' => ?_, ?_⟩
      · go_simp; exact rfl
      go_simp
      refine hKQ _ ?_
      clear hKQ KQ
      refine qs rfl (fun KQ hKQ => ?_)
      apply Exists.intro
      refine ⟨fun w' hw' => ?_, ?_⟩
      · go_simp; exact rfl
      go_simp
      refine hKQ _ ?_
      clear hKQ KQ
      refine qs rfl (fun KQ hKQ => ?_)
      apply Exists.intro
      refine ⟨fun w' hw' => ?_, ?_⟩
      · have c1 := hw'.1.cell HV2.out; go_simp; exact rfl
      go_simp
      refine hKQ _ ?_
      clear hKQ KQ
      refine qs rfl (fun KQ hKQ => ?_)
      apply Exists.intro
      refine ⟨fun w' hw' => ?_, ?_⟩
      · go_simp; exact rfl
      go_simp
      refine hKQ _ ?_
      clear hKQ KQ
      refine qs rfl (fun KQ hKQ => ?_)
      apply Exists.intro
      refine ⟨fun w' hw' => ?_, ?_⟩
      · go_simp; exact rfl
      go_simp
      refine hKQ _ ?_
      clear hKQ KQ
      refine qs rfl (fun KQ hKQ => ?_)
      apply Exists.intro
      refine ⟨fun w' hw' => ?_, ?_⟩
      · go_simp; exact rfl
      go_simp
      refine hKQ _ ?_
      clear hKQ KQ
      refine qs rfl (fun KQ hKQ => ?_)
      apply Exists.intro
      refine ⟨fun w' hw' => ?_, ?_⟩
      · go_simp; exact rfl
      go_simp
      refine hKQ _ ?_
      clear hKQ KQ
      refine qs rfl (fun KQ hKQ => ?_)
      apply Exists.intro
      refine ⟨fun w' hw' => ?_, ?_⟩
      · go_simp; exact rfl
      go_simp
      refine hKQ _ ?_
      clear hKQ KQ
      refine qs rfl (fun KQ hKQ => ?_)
      apply Exists.intro
      refine ⟨fun w' hw' => ?_, ?_⟩
      · go_simp; exact rfl
      go_simp
      refine hKQ _ ?_
      clear hKQ KQ
      refine qs rfl (fun KQ hKQ => ?_)
      apply Exists.intro
      refine ⟨fun w' hw' => ?_, ?_⟩
      · go_simp; exact rfl
      go_simp
      refine hKQ _ ?_
      clear hKQ KQ
      refine qs rfl (fun KQ hKQ => ?_)
      apply Exists.intro
      refine ⟨fun w' hw' => ?_, ?_⟩
      · go_simp; exact rfl
      go_simp
      refine hKQ _ ?_
      clear hKQ KQ
      refine qs rfl (fun KQ hKQ => ?_)
      apply Exists.intro
      refine ⟨fun w' hw' => ?_, ?_⟩
      · go_simp; exact rfl
      go_simp
      refine hKQ _ ?_
      clear hKQ KQ
      refine wpQuiet_nil ?_
      intro w' hw'
      obtain ⟨old, ho⟩ : ∃ old, w'.cell? ⟨w.heap.size + 1, j, none⟩ = some old := ⟨_, hw'.2.1.cell (Array.getElem?_eq_getElem (by rw [HK.out.2.2.1.1]; exact hlt))⟩
      have hf := hw'.2.1.fro j
      have K := hidd (show ∃ D, RelLi V zs w (j + 1) D (w'.setCell ⟨w.heap.size + 1, j, none⟩ (.int .i64 z)) from
        ⟨_, hw'.1.other _ _ (Nat.ne_of_lt (Nat.lt_succ_self _)), hw'.2.1.same j _, HST.out, hw'.2.2.setCell (Nat.le_succ _) _⟩)
      clear hw'
      go_wp2_with fail
      go_roundw
      case rel => exact ⟨j + 1, by omega, by go_num, K⟩
      case measure => simp [intOf]; omega
    · have hje : j = zs.length := by omega
      subst hje
      have hC := HK.out.2.2.1.done
      subst hC
      go_wp2_with fail
      go_ret
      exact ⟨_, _, rfl, own_blk HK.out.2.1 (by omega), HK.out.2.2.2⟩
end Go.Proofs.Yteclbaalejondaa
