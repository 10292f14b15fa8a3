/- Lesser-coloured sets: what they are; the model's test. -/
import Derived.Test.YtljlbonoohhhdaaGiv
import Derived.Test.YtljlbonoohhhdaaQs
namespace Go.Proofs.Ytljlbonoohhhdaa
set_option linter.unusedVariables false
set_option linter.unusedSimpArgs false
open Go Go.RowKit Go.Shelf
attribute [local go_sem] Oper.semAt_some
/-- The first j points have edges of one colour to the greater points. -/
def Les (bs : List Nat) (zs : List Int) (j : Nat) : Prop := ∀ i, i < j → ∀ m, m < zs.length → i < m → colAt bs (zs.getD i 0) (zs.getD m 0) = colAt bs (zs.getD i 0) (zs.getD (i + 1) 0)
/-- The edges of a point to the greater ones before place m have one colour. -/
def LesR (bs : List Nat) (zs : List Int) (i m0 : Nat) : Prop := ∀ m, m < m0 → m < zs.length → i < m → colAt bs (zs.getD i 0) (zs.getD m 0) = colAt bs (zs.getD i 0) (zs.getD (i + 1) 0)
def lesB (bs : List Nat) (zs : List Int) : Bool := decide (∀ i, i < zs.length → ∀ m, m < zs.length → i < m → colAt bs (zs.getD i 0) (zs.getD m 0) = colAt bs (zs.getD i 0) (zs.getD (i + 1) 0))
theorem lesB_yes {bs : List Nat} {zs : List Int} (h : Les bs zs zs.length) : lesB bs zs = true := by
  unfold lesB; rw [decide_eq_true_iff]; exact h
theorem lesB_no {bs : List Nat} {zs : List Int} {i m : Nat} (hi : i < zs.length) (hm : m < zs.length) (him : i < m) (h : colAt bs (zs.getD i 0) (zs.getD m 0) ≠ colAt bs (zs.getD i 0) (zs.getD (i + 1) 0)) : lesB bs zs = false := by
  unfold lesB; rw [decide_eq_false_iff_not]; exact fun k => h (k i hi m hm him)
theorem LesR.start (bs : List Nat) (zs : List Int) (i : Nat) : LesR bs zs i (i + 2) := by
  intro m h1 h2 h3
  obtain rfl : m = i + 1 := by omega
  rfl
theorem LesR.step {bs : List Nat} {zs : List Int} {i m : Nat} (h : LesR bs zs i m) (hc : colAt bs (zs.getD i 0) (zs.getD m 0) = colAt bs (zs.getD i 0) (zs.getD (i + 1) 0)) : LesR bs zs i (m + 1) := by
  intro m' h1 h2 h3
  by_cases e : m' = m
  · subst e; exact hc
  · exact h m' (by omega) h2 h3
theorem Les.step {bs : List Nat} {zs : List Int} {i m : Nat} (h : Les bs zs i) (hr : LesR bs zs i m) (hm : zs.length ≤ m) : Les bs zs (i + 1) := by
  intro i' h1 m' h2 h3
  by_cases e : i' = i
  · subst e; exact hr m' (by omega) h2 h3
  · exact h i' (by omega) m' h2 h3
/-- The colouring lies in its box, the list where it was. -/
def RelLs (C : Array Value) (zs : List Int) (b off : Nat) (w wr : World) : Prop := Blk wr w.heap.size C 25 ∧ (∀ j, j < zs.length → wr.cell? ⟨b, off + j, none⟩ = some (.int .i64 (zs.getD j 0))) ∧ Below w.heap.size w wr
theorem RelLs.more {C : Array Value} {zs : List Int} {b off : Nat} {w wr w2 : World} (h : RelLs C zs b off w wr) (hb : Below wr.heap.size wr w2) : RelLs C zs b off w w2 := by
  refine ⟨h.1.below hb h.1.lt, fun j hj => ?_, h.2.2.trans (hb.mono h.2.2.size)⟩
  have hs : SlI wr (some ⟨b, off, none⟩) zs := .inr ⟨b, off, rfl, h.2.1⟩
  rcases hs.below hb (Nat.le_refl _) with hz | ⟨b', off', ha, hc⟩
  · subst hz; simp at hj
  · cases ha; exact hc j hj
theorem RelLs.drew {C : Array Value} {zs : List Int} {b off : Nat} {w wr : World} (h : RelLs C zs b off w wr) : RelLs C zs b off w wr.drew := h.more (Below.refl _ _).drew
set_option maxRecDepth 100000 in
set_option maxHeartbeats 4000000 in
theorem les30 (n k : Int) (bs : List Nat) (hb : Bys bs) (zs : List Int) (a : Option Addr) (cap : Nat) (w : World) (hs : SlI w a zs) (hl : zs.length ≤ 17) (n2 : n ≤ 17) (hset : setB zs n = true) :
    Calls Try.prog 30 #[.agg (ccells n k bs).toArray, .slice a zs.length cap] w fun e w' => e = .returned (.bool (lesB bs zs)) ∧ Below w.heap.size w w' := by
  have HS := hidd (size_c26 n k hb)
  have HSET := hidd hset
  clear hset
  rcases hs with hz | ⟨b, off, ha, hc⟩
  · have HT := hidd (lesB_yes (bs := bs) (zs := zs) (fun i hi => by subst hz; simp at hi))
    have h0 : zs.length = 0 := by rw [hz]; rfl
    generalize zs.length = L at *
    subst h0
    clear hz
    go_enter Try.func30, Try.ntmps30
    go_wp2_with fail
    go_loopw [5] (fun e wr => e = .int .i64 0 ∧ Below w.heap.size w wr) (fun _ _ => 0)
    case atStart => exact ⟨rfl, (Below.refl _ _).alloc (Nat.le_refl _) _⟩
    case round =>
      obtain ⟨rfl, HR⟩ := hrel
      go_wp2
      go_ret
      exact ⟨by rw [HT.out]; rfl, HR⟩
  · subst ha
    have G := hidd (show RelLs (ccells n k bs).toArray zs b off w (w.alloc (.cells (ccells n k bs).toArray 25)) from
      ⟨Blk.new _ _ _ _ rfl, fun j hj => by
        have hs : SlI w (some ⟨b, off, none⟩) zs := .inr ⟨b, off, rfl, hc⟩
        rcases hs.below ((Below.refl w.heap.size w).alloc (Nat.le_refl _) (.cells (ccells n k bs).toArray 25)) (Nat.le_refl _) with hz | ⟨b', off', ha, hc⟩
        · subst hz; simp at hj
        · cases ha; exact hc j hj, (Below.refl w.heap.size w).alloc (Nat.le_refl _) _⟩)
    clear hc
    go_enter Try.func30, Try.ntmps30
    go_wp2_with fail
    go_loopw [5] (fun e wr => ∃ j : Nat, j ≤ zs.length ∧ e = .int .i64 j ∧ Hid (Les bs zs j) ∧ RelLs (ccells n k bs).toArray zs b off w wr) (fun e _ => zs.length - (intOf e).toNat)
    case atStart => exact ⟨0, by omega, rfl, fun i hi => by omega, G.out⟩
    case round =>
      obtain ⟨j, hj, rfl, HC, HR⟩ := hrel
      have HK := hidd HR
      clear HR
      by_cases hlt : j < zs.length
      · go_wp2_with fail
        go_loopw [6] (fun e wr => ∃ m : Nat, j + 2 ≤ m ∧ (m ≤ zs.length ∨ m = j + 2) ∧ e = .int .i64 m ∧ Hid (LesR bs zs j m) ∧ RelLs (ccells n k bs).toArray zs b off w wr) (fun e _ => zs.length - (intOf e).toNat)
        case atStart => exact ⟨j + 2, by omega, .inr rfl, by go_num, LesR.start bs zs j, HK.out⟩
        case round =>
          obtain ⟨m, hm0, hm, rfl, HR2, HR⟩ := hrel
          have HK2 := hidd HR
          clear HR
          by_cases hml : m < zs.length
          · obtain ⟨y0, y1⟩ := (set_get HSET.out).1 j hlt
            obtain ⟨z0, z1⟩ := (set_get HSET.out).1 m hml
            obtain ⟨x0, x1⟩ := (set_get HSET.out).1 (j + 1) (by omega)
            have u1 := set_up HSET.out (i := j) (m - j) (by omega)
            rw [show j + (m - j) = m by omega] at u1
            have u2 := set_up HSET.out (i := j) 1 (by omega)
            have hcy := fun wX (h : RelLs (ccells n k bs).toArray zs b off w wX) => h.2.1 j hlt
            have hcz := fun wX (h : RelLs (ccells n k bs).toArray zs b off w wX) => h.2.1 m hml
            have hcx := fun wX (h : RelLs (ccells n k bs).toArray zs b off w wX) => h.2.1 (j + 1) (by omega)
            obtain ⟨y, hy⟩ : ∃ y, y = zs.getD j 0 := ⟨_, rfl⟩
            obtain ⟨z, hz⟩ : ∃ y, y = zs.getD m 0 := ⟨_, rfl⟩
            obtain ⟨x, hx⟩ : ∃ y, y = zs.getD (j + 1) 0 := ⟨_, rfl⟩
            rw [← hy] at hcy y0 y1 u1 u2
            rw [← hz] at hcz z0 z1 u1
            rw [← hx] at hcx x0 x1 u2
            have HN1 := hidd (show y ≠ z by omega)
            have HN2 := hidd (show y ≠ x by omega)
            have HE := hidd (And.intro hy (And.intro hz hx))
            have HCY := hidd hcy
            have HCZ := hidd hcz
            have HCX := hidd hcx
            have hj1 : j + 1 < zs.length := by omega
            have hwj : IntKind.i64.wrap ((j : Int) + 1) = (j : Int) + 1 := IntWalk.i64_in _ (by omega)
            have hjp : (0 : Int) ≤ (j : Int) + 1 := by omega
            have hjq : (j : Int) + 1 < (zs.length : Int) := by omega
            clear hcy hcz hcx hy hz hx u1 u2
            obtain ⟨p, hp⟩ : ∃ p, p = colAt bs y z := ⟨_, rfl⟩
            obtain ⟨q, hq⟩ : ∃ p, p = colAt bs y x := ⟨_, rfl⟩
            have HP := hidd (And.intro hp hq)
            clear hp hq
            go_wp2_with fail
            refine wp_region_quiet_at (fun w' => RelLs (ccells n k bs).toArray zs b off w w') rfl (by kernel_rfl) (HK2.out.drew) ?_
            refine qs rfl (fun KQ hKQ => ?_)
            apply Exists.intro
            refine ⟨fun w' hw' => ?_, ?_⟩
            · exact quietRow 25 (.tmp 2) rfl w.heap.size rfl 25 _ _ hw'.1 Try.underlying25 rfl HS.out
            go_simp
            refine hKQ _ ?_
            clear hKQ KQ
            refine qs rfl (fun KQ hKQ => ?_)
            apply Exists.intro
            refine ⟨fun w' hw' => ?_, ?_⟩
            · go_simp; exact rfl
            go_simp
            refine hKQ _ ?_
            clear hKQ KQ
            refine qs rfl (fun KQ hKQ => ?_)
            apply Exists.intro
            refine ⟨fun w' hw' => ?_, ?_⟩
            · go_simp; exact rfl
            go_simp
            refine hKQ _ ?_
            clear hKQ KQ
            refine qs rfl (fun KQ hKQ => ?_)
            apply Exists.intro
            refine ⟨fun w' hw' => ?_, ?_⟩
            · go_simp; exact rfl
            go_simp
            refine hKQ _ ?_
            clear hKQ KQ
            refine qs rfl (fun KQ hKQ => ?_)
            apply Exists.intro
            refine ⟨fun w' hw' => ?_, ?_⟩
            · have hc := HCY.out w' hw'; go_simp; exact rfl
            go_simp
            refine hKQ _ ?_
            clear hKQ KQ
            refine qs rfl (fun KQ hKQ => ?_)
            apply Exists.intro
            refine ⟨fun w' hw' => ?_, ?_⟩
            · go_simp; exact rfl
            go_simp
            refine hKQ _ ?_
            clear hKQ KQ
            refine qs rfl (fun KQ hKQ => ?_)
            apply Exists.intro
            refine ⟨fun w' hw' => ?_, ?_⟩
            · go_simp; exact rfl
            go_simp
            refine hKQ _ ?_
            clear hKQ KQ
            refine qs rfl (fun KQ hKQ => ?_)
            apply Exists.intro
            refine ⟨fun w' hw' => ?_, ?_⟩
            · go_simp; exact rfl
            go_simp
            refine hKQ _ ?_
            clear hKQ KQ
            refine qs rfl (fun KQ hKQ => ?_)
            apply Exists.intro
            refine ⟨fun w' hw' => ?_, ?_⟩
            · have hc := HCZ.out w' hw'; go_simp; exact rfl
            go_simp
            refine hKQ _ ?_
            clear hKQ KQ
            refine qs rfl (fun KQ hKQ => ?_)
            apply Exists.intro
            refine ⟨fun w' hw' => ?_, ?_⟩
            · go_simp; exact (at57 n k bs hb n y z _ n2 y0 y1 z0 z1 HN1.out).mono fun _ _ h => ⟨by rw [h.1, ← HP.out.1], hw'.more h.2⟩
            go_simp
            refine hKQ _ ?_
            clear hKQ KQ
            refine qs rfl (fun KQ hKQ => ?_)
            apply Exists.intro
            refine ⟨fun w' hw' => ?_, ?_⟩
            · exact quietRow 25 (.tmp 2) rfl w.heap.size rfl 25 _ _ hw'.1 Try.underlying25 rfl HS.out
            go_simp
            refine hKQ _ ?_
            clear hKQ KQ
            refine qs rfl (fun KQ hKQ => ?_)
            apply Exists.intro
            refine ⟨fun w' hw' => ?_, ?_⟩
            · go_simp; exact rfl
            go_simp
            refine hKQ _ ?_
            clear hKQ KQ
            refine qs rfl (fun KQ hKQ => ?_)
            apply Exists.intro
            refine ⟨fun w' hw' => ?_, ?_⟩
            · go_simp; exact rfl
            go_simp
            refine hKQ _ ?_
            clear hKQ KQ
            refine qs rfl (fun KQ hKQ => ?_)
            apply Exists.intro
            refine ⟨fun w' hw' => ?_, ?_⟩
            · go_simp; exact rfl
            go_simp
            refine hKQ _ ?_
            clear hKQ KQ
            refine qs rfl (fun KQ hKQ => ?_)
            apply Exists.intro
            refine ⟨fun w' hw' => ?_, ?_⟩
            · have hc := HCY.out w' hw'; go_simp; exact rfl
            go_simp
            refine hKQ _ ?_
            clear hKQ KQ
            refine qs rfl (fun KQ hKQ => ?_)
            apply Exists.intro
            refine ⟨fun w' hw' => ?_, ?_⟩
            · go_simp; exact rfl
            go_simp
            refine hKQ _ ?_
            clear hKQ KQ
            refine qs rfl (fun KQ hKQ => ?_)
            apply Exists.intro
            refine ⟨fun w' hw' => ?_, ?_⟩
            · go_simp; exact rfl
            go_simp
            refine hKQ _ ?_
            clear hKQ KQ
            refine qs rfl (fun KQ hKQ => ?_)
            apply Exists.intro
            refine ⟨fun w' hw' => ?_, ?_⟩
            · go_simp; exact rfl
            go_simp
            refine hKQ _ ?_
            clear hKQ KQ
            refine qs rfl (fun KQ hKQ => ?_)
            apply Exists.intro
            refine ⟨fun w' hw' => ?_, ?_⟩
            · go_simp; exact rfl
            go_simp
            refine hKQ _ ?_
            clear hKQ KQ
            refine qs rfl (fun KQ hKQ => ?_)
            apply Exists.intro
            refine ⟨fun w' hw' => ?_, ?_⟩
            · have hc := HCX.out w' hw'; go_simp; exact rfl
            go_simp
            refine hKQ _ ?_
            clear hKQ KQ
            refine qs rfl (fun KQ hKQ => ?_)
            apply Exists.intro
            refine ⟨fun w' hw' => ?_, ?_⟩
            · go_simp; exact (at57 n k bs hb n y x _ n2 y0 y1 x0 x1 HN2.out).mono fun _ _ h => ⟨by rw [h.1, ← HP.out.2], hw'.more h.2⟩
            go_simp
            refine hKQ _ ?_
            clear hKQ KQ
            refine qs rfl (fun KQ hKQ => ?_)
            apply Exists.intro
            refine ⟨fun w' hw' => ?_, ?_⟩
            · go_simp; exact rfl
            go_simp
            refine hKQ _ ?_
            clear hKQ KQ
            refine wpQuiet_nil ?_
            intro w' hw'
            have HW := hidd hw'
            clear hw'
            by_cases hpq : p = q
            · have hd : (p != q) = false := by simpa using hpq
              have HR3 := hidd (HR2.out.step (show colAt bs (zs.getD j 0) (zs.getD m 0) = _ by rw [← HE.out.1, ← HE.out.2.1, ← HE.out.2.2, ← HP.out.1, ← HP.out.2, hpq]))
              clear hpq
              go_wp2_with fail
              go_roundw
              case rel => exact ⟨m + 1, by omega, .inl (by omega), by go_num, HR3, HW.out⟩
              case measure => simp [intOf]; omega
            · have hd : (p != q) = true := by rw [bne_iff_ne]; exact hpq
              have HF := hidd (lesB_no (bs := bs) hlt hml (by omega) (by rw [← HE.out.1, ← HE.out.2.1, ← HE.out.2.2, ← HP.out.1, ← HP.out.2]; exact hpq))
              clear hpq
              go_wp2
              go_ret
              exact ⟨by rw [HF.out]; rfl, HW.out.2.2⟩
          · have HL := hidd (HC.out.step HR2.out (by omega))
            go_wp2_with fail
            go_roundw
            case rel => exact ⟨j + 1, by omega, by go_num, HL, HK2.out⟩
            case measure => simp [intOf]; omega
      · obtain rfl : j = zs.length := by omega
        have HT := hidd (lesB_yes HC.out)
        go_wp2
        go_ret
        exact ⟨by rw [HT.out]; rfl, HK.out.2.2⟩
end Go.Proofs.Ytljlbonoohhhdaa
