/- The faults of a part in their order, and the model's first one: l07Fault. -/
import Derived.Test.YthmjmlmmbmdodaaAt
import Derived.Test.YthmjmlmmbmdodaaOnly
namespace Go.Proofs.Ythmjmlmmbmdodaa
set_option linter.unusedVariables false
set_option linter.unusedSimpArgs false
open Go Go.RowKit Go.Shelf
abbrev Flt := Int × Int × Int
/-- The faults with z and y up to m. -/
def frL (zs : List Int) (kind : Int) (z : Nat) : Nat → List Flt
  | 0 => []
  | m + 1 => frL zs kind z m ++ (if ftB zs kind ((m + 1 : Nat) : Int) (z : Int) = true then [(ftX kind ((m + 1 : Nat) : Int) (z : Int), ((m + 1 : Nat) : Int), (z : Int))] else [])
/-- The faults with z. -/
def rowL (zs : List Int) (kind : Int) (z : Nat) : List Flt := frL zs kind z (z - 1)
/-- The faults of d rows from f on. -/
def fsL (zs : List Int) (kind : Int) (f : Nat) : Nat → List Flt
  | 0 => []
  | d + 1 => fsL zs kind f d ++ rowL zs kind (f + d)
/-- The numbers of the first fault. -/
def headL : List Flt → List Int
  | [] => []
  | t :: _ => [t.1, t.2.1, t.2.2]
theorem headL_len (l : List Flt) : (headL l).length ≤ 3 := by cases l <;> simp [headL]
theorem frL_more (zs : List Int) (kind : Int) (z m : Nat) : ∀ k, ∃ r, frL zs kind z (m + k) = frL zs kind z m ++ r
  | 0 => ⟨[], by simp⟩
  | k + 1 => by
    obtain ⟨r, hr⟩ := frL_more zs kind z m k
    exact ⟨r ++ (if ftB zs kind ((m + k + 1 : Nat) : Int) (z : Int) = true then [(ftX kind ((m + k + 1 : Nat) : Int) (z : Int), ((m + k + 1 : Nat) : Int), (z : Int))] else []), by rw [show m + (k + 1) = (m + k) + 1 by omega, frL, hr, List.append_assoc]⟩
theorem fsL_more (zs : List Int) (kind : Int) (f d : Nat) : ∀ k, ∃ r, fsL zs kind f (d + k) = fsL zs kind f d ++ r
  | 0 => ⟨[], by simp⟩
  | k + 1 => by
    obtain ⟨r, hr⟩ := fsL_more zs kind f d k
    exact ⟨r ++ rowL zs kind (f + (d + k)), by rw [show d + (k + 1) = (d + k) + 1 by omega, fsL, hr, List.append_assoc]⟩
theorem head_at {zs : List Int} {kind : Int} {f d D m : Nat} (h1 : fsL zs kind f d = []) (h2 : frL zs kind (f + d) m = []) (h3 : ftB zs kind ((m + 1 : Nat) : Int) ((f + d : Nat) : Int) = true) (hd : d < D) (hm : m + 1 < f + d) :
    headL (fsL zs kind f D) = [ftX kind ((m + 1 : Nat) : Int) ((f + d : Nat) : Int), ((m + 1 : Nat) : Int), ((f + d : Nat) : Int)] := by
  obtain ⟨r, hr⟩ := fsL_more zs kind f (d + 1) (D - (d + 1))
  rw [show d + 1 + (D - (d + 1)) = D by omega, fsL, h1, List.nil_append] at hr
  obtain ⟨q, hq⟩ := frL_more zs kind (f + d) (m + 1) (f + d - 1 - (m + 1))
  rw [show m + 1 + (f + d - 1 - (m + 1)) = f + d - 1 by omega, frL, h2, List.nil_append, if_pos h3] at hq
  rw [hr, rowL, hq]
  rfl
/-- What l07Fault returns: a list of its own. -/
def LOne (w : World) (zs : List Int) (e : Ending) (w' : World) : Prop :=
  ∃ a cap, e = .returned (.slice a zs.length cap) ∧ OwnL w' w.heap.size a zs ∧ Below w.heap.size w w'
def RelFl (zs : List Int) (a : Option Addr) (w wr : World) : Prop := SlI wr a zs ∧ Below w.heap.size w wr
theorem RelFl.go {zs : List Int} {a : Option Addr} {w wr w2 : World} (h : RelFl zs a w wr) (hb : Below wr.heap.size wr w2) : RelFl zs a w w2 := ⟨h.1.below hb (Nat.le_refl _), h.2.trans (hb.mono h.2.size)⟩
set_option maxRecDepth 100000 in
set_option maxHeartbeats 2000000 in
theorem fault34 (zs : List Int) (a : Option Addr) (cap : Nat) (kind : Int) (f : Nat) (w : World) (hs : SlI w a zs) (hl : (zs.length : Int) ≤ 41) (k0 : 0 ≤ kind) (k2 : kind ≤ 2) (f1 : 1 ≤ f) (f2 : f ≤ zs.length + 1) :
    Calls Try.prog 34 #[.slice a zs.length cap, .int .i64 kind, .int .i64 (f : Int)] w (LOne w (headL (fsL zs kind f (zs.length + 1 - f)))) := by
  obtain ⟨D, hD⟩ : ∃ D, D = zs.length + 1 - f := ⟨_, rfl⟩
  rw [← hD]
  have hfD : f + D = zs.length + 1 := by omega
  have HSL := hidd hs
  clear hs hD
  go_enter Try.func34, Try.ntmps34
  go_wp2_with fail
  go_loopw [7] (fun e wr => ∃ d z : Nat, d ≤ D ∧ z = f + d ∧ e = .int .i64 (z : Int) ∧ Hid (fsL zs kind f d = []) ∧ Hid (RelFl zs a w wr)) (fun e _ => zs.length + 1 - (intOf e).toNat)
  case atStart => exact ⟨0, f, by omega, rfl, rfl, rfl, HSL.out, Below.refl _ _⟩
  case round =>
    obtain ⟨d, z, hd, hz, rfl, HF, HK⟩ := hrel
    obtain ⟨wo, rfl⟩ : ∃ wo : World, wo = wr := ⟨_, rfl⟩
    have HZ := hidd hz
    have hz1 : 1 ≤ z := by omega
    by_cases hlt : d < D
    · have hzl : (z : Int) ≤ (zs.length : Int) := by omega
      clear hz
      go_wp2_with fail
      go_loopw [8] (fun e wr => ∃ m y : Nat, m + 1 ≤ z ∧ y = m + 1 ∧ e = .int .i64 (y : Int) ∧ Hid (frL zs kind z m = []) ∧ Hid (RelFl zs a w wr)) (fun e _ => z - (intOf e).toNat)
      case atStart => exact ⟨0, 1, by omega, rfl, rfl, rfl, HK⟩
      case round =>
        obtain ⟨m, y, hm, hy, rfl, HF2, HK2⟩ := hrel
        have HY := hidd hy
        by_cases hlt2 : y < z
        · have hyI : (y : Int) < (z : Int) := by omega
          have y1 : (1 : Int) ≤ (y : Int) := by omega
          clear hy
          cases hq : ftB zs kind (y : Int) (z : Int) with
          | true =>
            have HX := hidd (ftAt_yes hq)
            have hx := ftB_lo hq
            obtain ⟨x, hxx⟩ : ∃ x, x = ftX kind (y : Int) (z : Int) := ⟨_, rfl⟩
            rw [← hxx] at HX hx
            have hxp : 0 < x := by omega
            have HH := hidd (show headL (fsL zs kind f D) = [x, (y : Int), (z : Int)] by
              have e1 := HY.out
              have e2 := HZ.out
              subst e1
              subst e2
              rw [head_at HF.out HF2.out hq hlt (by omega), hxx])
            clear hq hxx
            go_wp2_with fail
            refine (at38 zs a cap kind (y : Int) (z : Int) _ HK2.out.1 y1 hyI hzl hl k0 k2).mono ?_
            rintro e w2 ⟨rfl, hb2⟩
            rw [HX.out]
            have R := hidd (HK2.out.go hb2)
            clear hb2
            go_wp2_with fail
            go_ret
            refine ⟨some ⟨w2.heap.size, 0, none⟩, 3, by rw [HH.out]; rfl, ?_, R.out.2.alloc R.out.2.size _⟩
            rw [HH.out]
            exact own_blk0 (Blk.new w2 (icells [x, (y : Int), (z : Int)]).toArray 2 _ rfl) R.out.2.size
          | false =>
            have HX := hidd (ftAt_no hq)
            have HF3 := hidd (show frL zs kind z (m + 1) = [] by
              have e1 := HY.out
              subst e1
              rw [frL, HF2.out, if_neg (by rw [hq]; simp)]; rfl)
            clear hq
            go_wp2_with fail
            refine (at38 zs a cap kind (y : Int) (z : Int) _ HK2.out.1 y1 hyI hzl hl k0 k2).mono ?_
            rintro e w2 ⟨rfl, hb2⟩
            rw [HX.out]
            have R := hidd (HK2.out.go hb2)
            clear hb2
            go_wp2_with fail
            go_roundw
            case rel => exact ⟨m + 1, y + 1, by have := HY.out; omega, by have := HY.out; omega, by go_num, HF3, R⟩
            case measure => simp [intOf]; omega
        · have hmz : m = z - 1 := by omega
          have HF3 := hidd (show fsL zs kind f (d + 1) = [] by
            have e2 := HZ.out
            have h2 := HF2.out
            rw [fsL, HF.out, List.nil_append, rowL, ← e2, ← hmz]; exact h2)
          clear hy hmz
          go_wp2_with fail
          go_roundw
          case rel => exact ⟨d + 1, z + 1, by omega, by have := HZ.out; omega, by go_num, HF3, HK2⟩
          case measure => simp [intOf]; omega
    · have hdD : d = D := by omega
      have HE := hidd (show fsL zs kind f D = [] by rw [← hdD]; exact HF.out)
      have hzl : (zs.length : Int) < (z : Int) := by omega
      clear hz hdD
      go_wp2_with fail
      go_ret
      refine ⟨some ⟨wo.heap.size, 0, none⟩, 0, by rw [HE.out]; rfl, by rw [HE.out]; exact .inl rfl, HK.out.2.alloc HK.out.2.size _⟩
end Go.Proofs.Ythmjmlmmbmdodaa
