/- Pairs of sizes as keys. -/
import Derived.Test.YtlnelmickndoaaaDoorMem2
import Derived.Test.YtlnelmickndoaaaDoorGe
import Derived.Test.YtlnelmickndoaaaDoorCho
namespace Go.Proofs.YtlnelmickndoaaaDoor
set_option linter.unusedVariables false
set_option linter.unusedSimpArgs false
open Go Go.RowKit Go.Maps Go.ChangeMaps
theorem row38 : (31 : TypeId) < Tryd.prog.types.size := of_decide_eq_true (by kernel_rfl)
theorem wide38 : (match Tryd.prog.underlying 31 with | some (.array _ _) | some (.struct _) => true | _ => false) = true := by rw [Tryd.underlying31]
theorem law38 : Keyed Tryd.prog 31 := Keyed.of_law (deep_law_laid laidOut (m := 3) (by omega) row38 (by kernel_rfl) wide38)
theorem cells38 : Tryd.prog.cellsOf 31 = 2 := by kernel_rfl
theorem keyT38 : Tryd.prog.keyType 31 = true := by kernel_rfl
theorem tsz : ∃ m, Tryd.prog.types.size = m + 1 := ⟨_, (Nat.sub_add_cancel (Nat.lt_of_le_of_lt (Nat.zero_le _) row38)).symm⟩
theorem key38 {a b : Int} (wa : (Lit.int .i64 a).wf = true) (wb : (Lit.int .i64 b).wf = true) :
    keyOf Tryd.prog 31 (.agg #[.int .i64 a, .int .i64 b]) = some (.string (keyBytes [.int .i64 a, .int .i64 b])) := by
  obtain ⟨m, hm⟩ := tsz
  unfold keyOf
  simp only [Tryd.underlying31]
  rw [if_pos (by simp [keyT38, Value.formed, Tryd.underlying31, cells38]), hm]
  unfold Program.keyLits
  simp only [Tryd.underlying31, Value.cells]
  rw [if_pos (by rw [cells38]; exact ⟨rfl, by simp⟩)]
  simp [Program.keyLits, Tryd.underlying2, cells2, wa, wb]
/-- The key of a pair. -/
def klP (a b : Int) : Lit := .string (keyBytes [.int .i64 a, .int .i64 b])
theorem klP_inj {a b c d : Int} (wa : (Lit.int .i64 a).wf = true) (wb : (Lit.int .i64 b).wf = true) (wc : (Lit.int .i64 c).wf = true) (wd : (Lit.int .i64 d).wf = true) (h : klP a b = klP c d) : a = c ∧ b = d := by
  have h1 := key38 wa wb
  have h2 := key38 wc wd
  rw [show Lit.string (keyBytes [.int .i64 a, .int .i64 b]) = Lit.string (keyBytes [.int .i64 c, .int .i64 d]) from h] at h1
  have h3 := law38.inj h1 h2
  simpa using h3
def in16 (a : Int) : Prop := 1 ≤ a ∧ a ≤ 16
theorem in16_wf {a : Int} (h : in16 a) : (Lit.int .i64 a).wf = true := WalkArith.wf_i64 (by unfold in16 at h; omega)
/-- The binomial bound, by the model's choose. -/
def binV (a b : Int) : Int := cho8 (a + b - 2) (a - 1).toNat
/-- What the memory says at a pair's key. -/
def binR (k : Lit) (c : Int) : Prop := ∀ a b, in16 a → in16 b → k = klP a b → c = binV a b
theorem binR_mk {a b : Int} (ha : in16 a) (hb : in16 b) : binR (klP a b) (binV a b) := by
  intro c d hc hd h
  obtain ⟨rfl, rfl⟩ := klP_inj (in16_wf ha) (in16_wf hb) (in16_wf hc) (in16_wf hd) h
  rfl
/-- All keys of pairs. -/
def keysP : List Lit := (List.range 17).flatMap fun (a : Nat) => (List.range 17).map fun (b : Nat) => klP (a : Int) (b : Int)
theorem keysP_mem {a b : Int} (ha : in16 a) (hb : in16 b) : klP a b ∈ keysP := by
  unfold in16 at ha hb
  refine List.mem_flatMap.2 ⟨a.toNat, List.mem_range.2 (by omega), List.mem_map.2 ⟨b.toNat, List.mem_range.2 (by omega), ?_⟩⟩
  rw [Int.toNat_of_nonneg (by omega), Int.toNat_of_nonneg (by omega)]
theorem keysP_len : keysP.length < maxLen := by
  unfold keysP maxLen
  simp only [List.length_flatMap, List.length_map, List.length_range]
  decide +kernel
/-- What the table of binomial bounds says. -/
theorem binT : ((List.range 17).all fun (a : Nat) => (List.range 17).all fun (b : Nat) => decide (1 ≤ a → 1 ≤ b → (binV a b = if (a : Int) = 1 ∨ (b : Int) = 1 then 1 else binV ((a : Int) - 1) b + binV a ((b : Int) - 1)) ∧ 0 ≤ binV a b ∧ binV a b ≤ 200000000 ∧ ((List.range (a - 1)).all fun i => decide (0 ≤ cho8 ((a : Int) + b - 2) i * ((a : Int) + b - 2 - i) ∧ cho8 ((a : Int) + b - 2) i * ((a : Int) + b - 2 - i) ≤ 4611686018427387904)) = true)) = true := by decide +kernel
theorem bin_at {a b : Int} (ha : in16 a) (hb : in16 b) : (binV a b = if a = 1 ∨ b = 1 then 1 else binV (a - 1) b + binV a (b - 1)) ∧ 0 ≤ binV a b ∧ binV a b ≤ 200000000 ∧ ∀ i : Nat, i < (a - 1).toNat → 0 ≤ cho8 (a + b - 2) i * (a + b - 2 - i) ∧ cho8 (a + b - 2) i * (a + b - 2 - i) ≤ 4611686018427387904 := by
  unfold in16 at ha hb
  obtain ⟨A, rfl⟩ : ∃ A : Nat, a = (A : Int) := ⟨a.toNat, by omega⟩
  obtain ⟨B, rfl⟩ : ∃ B : Nat, b = (B : Int) := ⟨b.toNat, by omega⟩
  have h := of_decide_eq_true (List.all_eq_true.1 (List.all_eq_true.1 binT A (List.mem_range.2 (by omega))) B (List.mem_range.2 (by omega))) (by omega) (by omega)
  refine ⟨?_, h.2.1, h.2.2.1, fun i hi => of_decide_eq_true (List.all_eq_true.1 h.2.2.2 i (List.mem_range.2 (by omega)))⟩
  exact h.1
end Go.Proofs.YtlnelmickndoaaaDoor
