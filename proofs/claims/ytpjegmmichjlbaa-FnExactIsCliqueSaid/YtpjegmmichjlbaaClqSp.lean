/- l02Clique and IsClique: the model. -/
import Derived.Test.YtpjegmmichjlbaaClq
import Derived.Test.YtpjegmmichjlbaaPartSpec
namespace Go.Proofs.Ytpjegmmichjlbaa
set_option linter.unusedVariables false
set_option linter.unusedSimpArgs false
open Go Go.RowKit Go.Shelf
def cliB (bs : List Nat) (c : Int) (zs : List Int) : Bool := decide (∀ j, j < zs.length → ∀ i, i < j → colAt bs (zs.getD i 0) (zs.getD j 0) = c)
theorem cli_yes {bs : List Nat} {c : Int} {zs : List Int} (h : ∀ j, j < zs.length → ∀ i, i < j → colAt bs (zs.getD i 0) (zs.getD j 0) = c) : cliB bs c zs = true := decide_eq_true h
theorem cli_no {bs : List Nat} {c : Int} {zs : List Int} {i j : Nat} (hj : j < zs.length) (hi : i < j) (h : colAt bs (zs.getD i 0) (zs.getD j 0) ≠ c) : cliB bs c zs = false :=
  decide_eq_false fun hh => h (hh j hj i hi)
def Cli (bs : List Nat) (c : Int) (zs : List Int) (j : Nat) : Prop := ∀ j', j' < j → ∀ i, i < j' → colAt bs (zs.getD i 0) (zs.getD j' 0) = c
def Cli2 (bs : List Nat) (c : Int) (zs : List Int) (j i : Nat) : Prop := Cli bs c zs j ∧ ∀ i', i' < i → colAt bs (zs.getD i' 0) (zs.getD j 0) = c
theorem Cli2.done {bs : List Nat} {c : Int} {zs : List Int} {j : Nat} (h : Cli2 bs c zs j j) : Cli bs c zs (j + 1) := fun j' hj' i hi => by
  by_cases e : j' = j
  · subst e; exact h.2 i hi
  · exact h.1 j' (by omega) i hi
theorem Cli2.step {bs : List Nat} {c : Int} {zs : List Int} {j i : Nat} (h : Cli2 bs c zs j i) (hc : colAt bs (zs.getD i 0) (zs.getD j 0) = c) : Cli2 bs c zs j (i + 1) := ⟨h.1, fun i' hi' => by
  by_cases e : i' = i
  · subst e; exact hc
  · exact h.2 i' (by omega)⟩
def RelCq (C : Array Value) (zs : List Int) (a : Option Addr) (w : World) (wr : World) : Prop := Blk wr w.heap.size C 29 ∧ SlI wr a zs ∧ Below w.heap.size w wr
set_option maxRecDepth 100000 in
set_option maxHeartbeats 4000000 in
theorem cli58 (n k : Int) (bs : List Nat) (hb : Bys bs) (c : Int) (zs : List Int) (w : World) (n1 : 1 ≤ n) (n2 : n ≤ 17) (h : setB zs n = true) :
    Calls Try.prog 58 #[.agg (ccells n k bs).toArray, .int .i64 c, .int .i64 (bitsK zs zs.length : Nat)] w fun e w' => e = .returned (.bool (cliB bs c zs)) ∧ Below w.heap.size w w' := by
  have HS := hidd (size_c26 n k hb)
  have hlen := set_len h (by omega)
  obtain ⟨S, hS⟩ : ∃ S, S = bitsK zs zs.length := ⟨_, rfl⟩
  have hS1 : S < 4611686018427387904 := Nat.lt_of_lt_of_le (by rw [hS]; exact bitsK_lt h n2 _ (Nat.le_refl _)) (by omega)
  have HBT := hidd (show ∀ j, S.testBit j = memB zs j from fun j => by rw [hS, bitsK_bit h j _ (Nat.le_refl _), List.take_length])
  have HNB := hidd (nbK_set_eq h (m := 62) (by omega))
  have HSET := hidd h
  rw [← hS]
  clear h hS
  go_enter Try.func58, Try.ntmps58
  go_wp2_with fail
  refine (points62 (memB zs) S _ hS1 HBT.out).mono ?_
  rintro e w1 ⟨v, rfl, hown, hb1⟩
  rw [HNB.out] at hown
  obtain ⟨a, cap, rfl, ho⟩ := own_list hown
  have G := hidd (show RelCq (ccells n k bs).toArray zs a w w1 from ⟨(Blk.new _ _ _ _ rfl).below hb1 (by simp), ho.sl, ((Below.refl w.heap.size w).alloc (Nat.le_refl _) (.cells (ccells n k bs).toArray 29)).trans (hb1.mono (by simp))⟩)
  clear hown ho hb1
  go_wp2_with fail
  go_loopw [8] (fun e wr => ∃ j : Nat, j ≤ zs.length ∧ e = .int .i64 j ∧ Hid (Cli bs c zs j) ∧ RelCq (ccells n k bs).toArray zs a w wr) (fun e _ => zs.length - (intOf e).toNat)
  case atStart => exact ⟨0, by omega, rfl, fun j' hj' => by omega, G.out⟩
  case round =>
    obtain ⟨j, hj, rfl, HC, HR⟩ := hrel
    have HK := hidd HR
    clear HR
    by_cases hlt : j < zs.length
    · go_wp2_with fail
      go_loopw [9] (fun e wr => ∃ i : Nat, i ≤ j ∧ e = .int .i64 i ∧ Hid (Cli2 bs c zs j i) ∧ RelCq (ccells n k bs).toArray zs a w wr) (fun e _ => j - (intOf e).toNat)
      case atStart => exact ⟨0, by omega, rfl, ⟨HC.out, fun i' hi' => by omega⟩, HK.out⟩
      case round =>
        obtain ⟨i, hi, rfl, HC2, HR⟩ := hrel
        have HK2 := hidd HR
        clear HR
        by_cases hil : i < j
        · rcases HK2.out.2.1 with hz | ⟨b, off, ha, hc⟩
          · subst hz; simp at hlt
          · subst ha
            have hci := hc i (by omega)
            have hcj := hc j hlt
            obtain ⟨y, hy⟩ : ∃ y, y = zs.getD i 0 := ⟨_, rfl⟩
            obtain ⟨z, hz⟩ : ∃ z, z = zs.getD j 0 := ⟨_, rfl⟩
            have hup := set_up HSET.out (i := i) (j - i) (by omega)
            rw [show i + (j - i) = j by omega] at hup
            obtain ⟨y0, y1⟩ := (set_get HSET.out).1 i (by omega)
            obtain ⟨z0, z1⟩ := (set_get HSET.out).1 j hlt
            rw [← hy] at hci hup y0 y1
            rw [← hz] at hcj hup z0 z1
            have HA := hidd (fun (w' : World) (hw' : Below wr.heap.size wr w') => And.intro ((hw'.cell (block_lt_of_cell hci)).trans hci) ((hw'.cell (block_lt_of_cell hcj)).trans hcj))
            have HNE := hidd (show y ≠ z by omega)
            obtain ⟨x, hx⟩ : ∃ x, x = colAt bs y z := ⟨_, rfl⟩
            have HX := hidd hx
            have hin : i < zs.length := by omega
            have HYZ := hidd (And.intro hy hz)
            have HRW := hidd (show ∀ w', Below wr.heap.size wr w' → RelCq (ccells n k bs).toArray zs (some ⟨b, off, none⟩) w w' from fun w' hw' =>
              ⟨HK2.out.1.below hw' HK2.out.1.lt, HK2.out.2.1.below hw' (Nat.le_refl _), HK2.out.2.2.trans (hw'.mono HK2.out.2.2.size)⟩)
            clear hc hci hcj hy hz hup hx
            go_wp2_with fail
            refine wp_region_last_lit 11 (fun w' => Below wr.heap.size wr w') rfl rfl (by kernel_rfl) ((Below.refl _ _).drew) (by kernel_rfl) (by kernel_rfl) (by kernel_rfl) ?_
            simp only [List.take_succ_cons, List.take_zero, List.cons_append, List.nil_append, idle]
            refine qs rfl (fun KQ hKQ => ?_)
            apply Exists.intro
            refine ⟨fun w' hw' => ?_, ?_⟩
            · (exact quietRow 29 (.tmp 3) rfl w.heap.size rfl 29 _ _ (HK2.out.1.below hw' HK2.out.1.lt) Try.underlying29 rfl HS.out)
            go_simp
            refine hKQ _ ?_
            clear hKQ KQ
            refine qs rfl (fun KQ hKQ => ?_)
            apply Exists.intro
            refine ⟨fun w' hw' => ?_, ?_⟩
            · (go_simp; exact rfl)
            go_simp
            refine hKQ _ ?_
            clear hKQ KQ
            refine qs rfl (fun KQ hKQ => ?_)
            apply Exists.intro
            refine ⟨fun w' hw' => ?_, ?_⟩
            · (go_simp; exact rfl)
            go_simp
            refine hKQ _ ?_
            clear hKQ KQ
            refine qs rfl (fun KQ hKQ => ?_)
            apply Exists.intro
            refine ⟨fun w' hw' => ?_, ?_⟩
            · (go_simp; exact rfl)
            go_simp
            refine hKQ _ ?_
            clear hKQ KQ
            refine qs rfl (fun KQ hKQ => ?_)
            apply Exists.intro
            refine ⟨fun w' hw' => ?_, ?_⟩
            · (have e1 := (HA.out w' hw').1; go_simp; exact rfl)
            go_simp
            refine hKQ _ ?_
            clear hKQ KQ
            refine qs rfl (fun KQ hKQ => ?_)
            apply Exists.intro
            refine ⟨fun w' hw' => ?_, ?_⟩
            · (go_simp; exact rfl)
            go_simp
            refine hKQ _ ?_
            clear hKQ KQ
            refine qs rfl (fun KQ hKQ => ?_)
            apply Exists.intro
            refine ⟨fun w' hw' => ?_, ?_⟩
            · (go_simp; exact rfl)
            go_simp
            refine hKQ _ ?_
            clear hKQ KQ
            refine qs rfl (fun KQ hKQ => ?_)
            apply Exists.intro
            refine ⟨fun w' hw' => ?_, ?_⟩
            · (go_simp; exact rfl)
            go_simp
            refine hKQ _ ?_
            clear hKQ KQ
            refine qs rfl (fun KQ hKQ => ?_)
            apply Exists.intro
            refine ⟨fun w' hw' => ?_, ?_⟩
            · (have e1 := (HA.out w' hw').2; go_simp; exact rfl)
            go_simp
            refine hKQ _ ?_
            clear hKQ KQ
            refine qs rfl (fun KQ hKQ => ?_)
            apply Exists.intro
            refine ⟨fun w' hw' => ?_, ?_⟩
            · (go_simp; exact (at57 n k bs hb n y z _ n2 y0 y1 z0 z1 HNE.out).mono fun _ _ h => ⟨by rw [h.1, ← HX.out], hw'.trans (h.2.mono hw'.size)⟩)
            go_simp
            refine hKQ _ ?_
            clear hKQ KQ
            refine qs rfl (fun KQ hKQ => ?_)
            apply Exists.intro
            refine ⟨fun w' hw' => ?_, ?_⟩
            · (go_simp; exact rfl)
            go_simp
            refine hKQ _ ?_
            clear hKQ KQ
            refine qs rfl (fun KQ hKQ => ?_)
            apply Exists.intro
            refine ⟨fun w' hw' => ?_, ?_⟩
            · (go_simp; exact rfl)
            go_simp
            refine hKQ _ ?_
            clear hKQ KQ
            refine wpQuiet_nil ?_
            intro w' hw'
            have K9 := hidd (HRW.out w' hw')
            by_cases hxc : x = c
            · have hq : (x != c) = false := by simpa using hxc
              have HC3 := hidd (HC2.out.step (show colAt bs (zs.getD i 0) (zs.getD j 0) = c by rw [← HYZ.out.1, ← HYZ.out.2, ← HX.out, hxc]))
              clear hxc
              go_wp2
              go_roundw
              case rel => exact ⟨i + 1, by omega, by go_num, HC3, K9.out⟩
              case measure => simp [intOf]; omega
            · have hq : (x != c) = true := by rw [bne_iff_ne]; exact hxc
              have HF := hidd (cli_no (bs := bs) (c := c) hlt hil (by rw [← HYZ.out.1, ← HYZ.out.2, ← HX.out]; exact hxc))
              clear hxc
              go_wp2
              go_ret
              exact ⟨by rw [HF.out]; rfl, K9.out.2.2⟩
        · have hie : i = j := by omega
          subst hie
          go_wp2_with fail
          go_roundw
          case rel => exact ⟨i + 1, by omega, by go_num, HC2.out.done, HK2.out⟩
          case measure => simp [intOf]; omega
    · have hje : j = zs.length := by omega
      subst hje
      have HT := hidd (cli_yes (bs := bs) (c := c) HC.out)
      go_wp2_with fail
      go_ret
      exact ⟨by rw [HT.out]; rfl, HK.out.2.2⟩
end Go.Proofs.Ytpjegmmichjlbaa
