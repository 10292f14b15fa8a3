/- Lists of colours taken as arrays; colourings that a list tells by distances or by differences: the program. -/
import Derived.Test.YtckffliiidgilaaDoorConcat
import Derived.Test.YtckffliiidgilaaDoorGb
import Derived.Test.YtckffliiidgilaaDoorGc
namespace Go.Proofs.YtckffliiidgilaaDoor
set_option linter.unusedVariables false
set_option linter.unusedSimpArgs false
open Go Go.RowKit Go.Shelf
def z15 : List Int := List.replicate 15 0
/-- The fifteen cells that the program takes of a list. -/
def lst15 (zs : List Int) : List Int := (zs ++ z15).take 15
theorem lst15_len (zs : List Int) : (lst15 zs).length = 15 := by simp [lst15, z15]
theorem lst15_get (zs : List Int) {j : Nat} (h : j < 15) : (lst15 zs).getD j 0 = zs.getD j 0 := by
  simp only [lst15, List.getD_eq_getElem?_getD, List.getElem?_take, h, if_true]
  by_cases hj : j < zs.length
  · rw [List.getElem?_append_left hj]
  · rw [List.getElem?_append_right (by omega), List.getElem?_eq_none (l := zs) (by omega)]
    unfold z15
    rw [List.getElem?_replicate]
    split <;> rfl
theorem icells_one (zs : List Int) : (icells zs).toArray.all (·.oneCell') = true := all_oneCell_toArray (icells_oc zs)
theorem zrow15 : zrow 15 = (icells z15).toArray := zrow_icells 15
/-- The distance of two points on a circle. -/
def dst (N lo hi : Nat) : Nat := min (hi - lo) (N - hi + lo)
theorem dst_bd {N lo hi : Nat} (h1 : lo < hi) (h2 : hi < N) : 1 ≤ dst N lo hi ∧ dst N lo hi ≤ N / 2 := by unfold dst; omega
theorem dst_int {N lo hi : Nat} (h1 : lo < hi) (h2 : hi < N) : min ((hi : Int) - lo) ((N : Int) - hi + lo) = (dst N lo hi : Int) := by unfold dst; omega
theorem within45 (n lo hi : Int) (w : World) : Calls Tryd.prog 62 #[.int .i64 n, .int .i64 lo, .int .i64 hi] w fun e w' => e = .returned (.bool (inB n lo hi)) ∧ w = w' := by
  by_cases h1 : lo ≤ n
  · by_cases h2 : n ≤ hi
    · have H := hidd (inB_yes h1 h2)
      go_enter Tryd.func62, Tryd.ntmps62
      go_wp2
      go_ret
      exact ⟨by rw [H.out]; rfl, rfl⟩
    · have H := hidd (inB_no (n := n) (lo := lo) (hi := hi) (by omega))
      have hd : decide (n ≤ hi) = false := by simpa using h2
      clear h2
      go_enter Tryd.func62, Tryd.ntmps62
      go_wp2
      go_ret
      exact ⟨by rw [H.out]; rfl, rfl⟩
  · have H := hidd (inB_no (n := n) (lo := lo) (hi := hi) (by omega))
    have hd : decide (lo ≤ n) = false := by simpa using h1
    clear h1
    go_enter Tryd.func62, Tryd.ntmps62
    go_wp2
    go_ret
    exact ⟨by rw [H.out]; rfl, rfl⟩
/-- Has a list as many colours as told, each one of k? -/
def isListB (zs : List Int) (m k : Int) : Bool := decide ((zs.length : Int) = m) && allB zs k
set_option maxRecDepth 100000 in
theorem isList46 (zs : List Int) (a : Option Addr) (cap : Nat) (m k : Int) (w : World) (hs : SlI w a zs) (hl : zs.length ≤ 9223372036854775807) :
    Calls Tryd.prog 48 #[.slice a zs.length cap, .int .i64 m, .int .i64 k] w fun e w' => e = .returned (.bool (isListB zs m k)) ∧ w = w' := by
  have HS := hidd hs
  clear hs
  by_cases hm : (zs.length : Int) = m
  · have hq : ((zs.length : Int) == m) = true := by simpa using hm
    have H := hidd (show isListB zs m k = allB zs k by simp [isListB, hm])
    clear hm
    go_enter Tryd.func48, Tryd.ntmps48
    go_wp2_with (go_at_call 79; refine (all51 zs a cap k _ HS.out hl).mono ?_; rintro e w' ⟨rfl, rfl⟩)
    go_ret
    exact ⟨by rw [H.out]; rfl, rfl⟩
  · have hq : ((zs.length : Int) == m) = false := by rw [beq_eq_false_iff_ne]; exact hm
    have H := hidd (show isListB zs m k = false by simp [isListB, hm])
    clear hm
    go_enter Tryd.func48, Tryd.ntmps48
    go_wp2_with fail
    go_ret
    exact ⟨by rw [H.out]; rfl, rfl⟩
end Go.Proofs.YtckffliiidgilaaDoor
