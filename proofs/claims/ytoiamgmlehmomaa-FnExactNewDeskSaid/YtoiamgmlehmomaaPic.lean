/- The five colourings that have a name. -/
import Derived.Test.YtoiamgmlehmomaaDif
import Derived.Test.YtoiamgmlehmomaaKey
namespace Go.Proofs.Ytoiamgmlehmomaa
set_option linter.unusedVariables false
set_option linter.unusedSimpArgs false
open Go Go.RowKit Go.Maps Go.ChangeMaps
/-- The colour of the edge of two points of sixteen, by the sum without carries. -/
def sx (t : Int) : Int := if t == 1 || (t == 8 || (t == 10 || (t == 12 || t == 15))) then 0 else if t == 2 || (t == 3 || (t == 7 || (t == 11 || t == 13))) then 1 else 2
def sxR (lo hi : Nat) : Int := sx (bits BinOp.xor .i64 (lo : Int) (hi : Int))
theorem sx_bd (t : Int) : 0 ≤ sx t ∧ sx t < 256 := by
  unfold sx
  split
  · omega
  · split <;> omega
set_option maxRecDepth 100000 in
theorem rule26 (lo hi : Nat) (w : World) : Calls Try.prog 26 #[.int .i64 (lo : Int), .int .i64 (hi : Int)] w fun e w' => e = .returned (.int .i64 (sxR lo hi)) ∧ Below w.heap.size w w' := by
  go_enter Try.func26, Try.ntmps26
  go_wp2_with fail
  all_goals
    go_ret
    exact ⟨by simp_all [sxR, sx], Below.refl _ _⟩
theorem ruleOf26 (w : World) : Rule 16 26 #[] sxR w := fun x W hbl => by
  simpa using rule26 x.1.2.1 x.1.2.2 W
def pcN : Nat → Nat
  | 0 => 5 | 1 => 8 | 2 => 13 | 3 => 17 | _ => 16
def pcK : Nat → Int
  | 4 => 3 | _ => 2
def pcZ : Nat → List Int
  | 0 => [1, 4] | 1 => [1, 4, 7] | 2 => [1, 5, 8, 12] | _ => [1, 2, 4, 8, 9, 13, 15, 16]
def pcB (i : Nat) : List Nat := if i = 4 then paintB 16 sxR else paintB (pcN i) (dfR (pcZ i))
theorem pcB_bys (i : Nat) : Bys (pcB i) := by
  unfold pcB
  split
  · exact paintB_bys fun _ _ => sx_bd _
  · exact paintB_bys (dfR_bd _)
def pcV (i : Nat) : Value := .agg (ccells (pcN i : Int) (pcK i) (pcB i)).toArray
def pcT : Nat → ByteArray
  | 0 => { data := #[112, 101, 110, 116, 97, 103, 111, 110] }
  | 1 => { data := #[101, 105, 103, 104, 116] }
  | 2 => { data := #[116, 104, 105, 114, 116, 101, 101, 110] }
  | 3 => { data := #[115, 101, 118, 101, 110, 116, 101, 101, 110] }
  | _ => { data := #[115, 105, 120, 116, 101, 101, 110] }
theorem pcN_bd (i : Nat) : 5 ≤ pcN i ∧ pcN i ≤ 17 := by unfold pcN; split <;> omega
theorem pcK_bd (i : Nat) : 2 ≤ pcK i ∧ pcK i ≤ 3 := by unfold pcK; split <;> omega
/-- What a colouring with a name reads as, as a key. -/
noncomputable def pcL (i : Nat) : Lit := (keyOf Try.prog 24 (pcV i)).getD (.bool true)
theorem pcL_key (i : Nat) : keyOf Try.prog 24 (pcV i) = some (pcL i) := by
  have h := key24 (n := (pcN i : Int)) (k := pcK i) (pcB_bys i) (WalkArith.wf_i64 (by have := pcN_bd i; omega)) (WalkArith.wf_i64 (by have := pcK_bd i; omega))
  obtain ⟨l, hl⟩ := Option.isSome_iff_exists.1 h
  unfold pcL
  rw [show keyOf Try.prog 24 (pcV i) = some l from hl]; rfl
theorem pcN_inj {i j : Nat} (hi : i < 5) (hj : j < 5) (h : pcN i = pcN j) : i = j := by
  have : (List.range 5).all (fun i => (List.range 5).all fun j => decide (pcN i = pcN j → i = j)) = true := by decide
  exact of_decide_eq_true (List.all_eq_true.1 (List.all_eq_true.1 this i (List.mem_range.2 hi)) j (List.mem_range.2 hj)) h
theorem pcL_inj {i j : Nat} (hi : i < 5) (hj : j < 5) (h : pcL i = pcL j) : i = j := by
  have h1 := pcL_key i
  rw [h] at h1
  have h2 := law24.inj h1 (pcL_key j)
  unfold pcV at h2
  have h3 : (ccells (pcN i : Int) (pcK i) (pcB i)).toArray[0]? = (ccells (pcN j : Int) (pcK j) (pcB j)).toArray[0]? := by
    injection h2 with h2; rw [h2]
  have h4 : (pcN i : Int) = (pcN j : Int) := by simpa [ccells] using h3
  exact pcN_inj hi hj (by omega)
/-- The map in block b: its keys are colourings with a name, each one with its name; those of S are there. -/
def Mp (w : World) (b : Nat) (S : Nat → Bool) (u : Nat) : Prop :=
  ∃ n, ∃ D : DataW Unit, w.ownsMap Try.prog 24 (plainElem Try.prog 9) b n D ∧ n + u ≤ 17 ∧
    (∀ kl, Maps.has D kl = true → ∃ i, i < 5 ∧ kl = pcL i ∧ ∀ zd, D.atKey kl zd = .lit (.string (pcT i).data.toList)) ∧ ∀ i, i < 5 → S i = true → Maps.has D (pcL i) = true
theorem Mp.mono {w : World} {b : Nat} {S S' : Nat → Bool} {u u' : Nat} (h : Mp w b S u) (hS : ∀ i, i < 5 → S' i = true → S i = true) (hu : u' ≤ u) : Mp w b S' u' := by
  obtain ⟨n, D, h1, h2, h3, h4⟩ := h
  exact ⟨n, D, h1, by omega, h3, fun i hi hs => h4 i hi (hS i hi hs)⟩
theorem Mp.below {w w' : World} {B b : Nat} {S : Nat → Bool} {u : Nat} (h : Mp w b S u) (hb : Below B w w') (hl : b < B) : Mp w' b S u := by
  obtain ⟨n, D, ⟨es, clock, hb1, r⟩, h2⟩ := h
  exact ⟨n, D, ⟨es, clock, by rw [hb.block b hl]; exact hb1, r⟩, h2⟩
theorem Mp.made (w : World) {u : Nat} (hu : u ≤ 17) : Mp (w.alloc (.map #[] 0)) w.heap.size (fun _ => false) u :=
  ⟨0, .map [], World.ownsMap_made w _ _ _, by omega, fun kl h => by simp [Maps.has] at h, fun i _ h => by cases h⟩
theorem pcT_size (i : Nat) : (pcT i).size ≤ maxLen := by
  unfold maxLen pcT
  split <;> decide
theorem Mp.put {w : World} {b : Nat} {S S' : Nat → Bool} {u u' : Nat} (h : Mp w b S u) (i : Nat) (hi : i < 5) (hu : u' + 1 ≤ u) (hS : ∀ j, j < 5 → S' j = true → j = i ∨ S j = true) :
    ∃ w', (Instr.mapUpdate 42 (.map (some b)) (pcV i) (.string (pcT i))).run Try.prog w = .ok () w' ∧ Mp w' b S' u' ∧ w.mapTurned w' b := by
  obtain ⟨n, D, h1, h2, h3, h4⟩ := h
  have hm := h1.isMap
  obtain ⟨w', hr, ho, ht⟩ := h1.store law24 Try.underlying42 (by unfold maxLen; omega) (pcL_key i) (plainElem_string Try.underlying9 (pcT_size i))
  refine ⟨w', hr, ⟨n + 1, _, ho, by omega, fun kl hk => ?_, fun j hj hs => ?_⟩, ht⟩
  · by_cases e : kl = pcL i
    · exact ⟨i, hi, e, fun zd => by rw [e]; exact atKey_put_same hm (law24.key (pcL_key i)) _ _⟩
    · rw [has_put_other e] at hk
      obtain ⟨j, hj, ej, hz⟩ := h3 kl hk
      exact ⟨j, hj, ej, fun zd => by rw [atKey_put_other e]; exact hz zd⟩
  · by_cases e : pcL j = pcL i
    · rw [e]; exact has_put_same hm (law24.key (pcL_key i)) _
    · rw [has_put_other e]
      rcases hS j hj hs with rfl | h
      · exact absurd rfl e
      · exact h4 j hj h
end Go.Proofs.Ytoiamgmlehmomaa
