/- isFree: the program's test of all faults. -/
import Derived.Test.YthmjmlmmbmdodaaOfs
import Derived.Test.YthmjmlmmbmdodaaFsp
namespace Go.Proofs.Ythmjmlmmbmdodaa
set_option linter.unusedVariables false
set_option linter.unusedSimpArgs false
open Go Go.RowKit Go.Shelf
attribute [local go_sem] Oper.semAt_some
theorem of37 (a : Option Addr) (n cap T : Nat) (x : Value) (w : World) :
    Calls Try.prog 37 #[.slice a n cap, .iface T x] w fun e w' => e = .returned (.func (.func 56) #[] #[.pointer (some ⟨w.heap.size, 0, none⟩), .pointer (some ⟨w.heap.size + 1, 0, none⟩)]) ∧
      Blk w' w.heap.size #[.slice a n cap] 22 ∧ Blk w' (w.heap.size + 1) #[.iface T x] 48 ∧ Below w.heap.size w w' := by
  have hmf : ∀ (fn : Fn) (first cap : Array Value) (w : World), (Instr.makeFunc fn first cap).run Try.prog w = .ok (.func fn first cap) w := fun _ _ _ _ => rfl
  have hb := hidd (((Below.refl w.heap.size w).alloc (Nat.le_refl _) (.cells #[.slice a n cap] 22)).alloc (by simp) (.cells #[.iface T x] 48))
  have h1 := hidd ((Blk.new w #[.slice a n cap] 22 _ rfl).alloc (.cells #[.iface T x] 48))
  have h2 := hidd (Blk.new (w.alloc (.cells #[.slice a n cap] 22)) #[.iface T x] 48 (w.heap.size + 1) (by simp))
  go_enter Try.func37, Try.ntmps37
  go_wp2
  go_ret
  exact ⟨rfl, h1.out, h2.out, hb.out⟩
set_option maxRecDepth 100000 in
set_option maxHeartbeats 2000000 in
theorem isfree36 (zs : List Int) (kind : Int) (k0 : 0 ≤ kind) (k2 : kind ≤ 2) (bp off cap : Nat) (w : World) (hl : zs.length ≤ 41) (hbp : bp < w.heap.size) (hs : SlI w (some ⟨bp, off, none⟩) zs) :
    Calls Try.prog 36 #[.slice (some ⟨bp, off, none⟩) zs.length cap, kindV kind] w fun e w' => e = .returned (.bool (FT zs kind).isEmpty) ∧ Below w.heap.size w w' := by
  obtain ⟨T, tv, hkv⟩ := kindV_if kind
  have HKV := hidd hkv
  rw [hkv]
  have HSL := hidd hs
  clear hkv hs
  refine (callsIn_wide (n := 3)).1 (callsIn_of_wp_marks Try.func36 rfl trivial ?_ rfl)
  simp only [Try.ntmps36, List.size_toArray, List.length_cons, List.length_nil, Nat.reduceAdd, Nat.reduceSub, Array.replicate_succ, Array.replicate_zero, List.push_toArray, List.append_toArray, List.nil_append, List.cons_append]
  gi_wp2_with fail
  refine ⟨trivial, (callsIn_wide.2 (of37 _ _ _ _ _ _)).mono ?_⟩
  rintro e w1 ⟨rfl, f1, f2, hb1⟩
  have hz : (w.alloc (Obj.cells #[Value.bool false] 4)).heap.size = w.heap.size + 1 := by simp
  rw [hz] at f1 f2 hb1 ⊢
  have hB0 : Below w.heap.size w w1 := ((Below.refl _ _).alloc (Nat.le_refl _) _).trans (hb1.mono (by omega))
  have hR1 : Blk w1 w.heap.size #[.bool false] 4 := (Blk.new w #[.bool false] 4 _ rfl).below hb1 (by omega)
  have hw1 : w.heap.size + 1 + 1 < w1.heap.size := f2.lt
  have hcap : Cap2 zs kind bp off cap (w.heap.size + 1) (w.heap.size + 1 + 1) w1 := ⟨f1, by rw [HKV.out]; exact f2, HSL.out.below hB0 (Nat.le_refl _)⟩
  have HIT := hidd (iter56 0 zs kind k0 k2 bp off cap (w.heap.size + 1) (w.heap.size + 1 + 1) w1 hl (by omega) hcap)
  have HR := hidd (And.intro hR1 hB0)
  have HS1 := hidd (show Stab w1.heap.size (fun (pre : List Flt) Wx => pre = [] ∧ Blk Wx w.heap.size #[.bool false] 4 ∧ Below w.heap.size w Wx) from
    fun pre A A' h hb => ⟨h.1, h.2.1.below hb (by omega), h.2.2.trans (hb.mono (by omega))⟩)
  have HS2 := hidd (show Stab w1.heap.size (fun (pre : List Flt) Wx => Blk Wx w.heap.size #[.bool false] 4 ∧ Below w.heap.size w Wx) from
    fun pre A A' h hb => ⟨h.1.below hb (by omega), h.2.trans (hb.mono (by omega))⟩)
  clear f1 f2 hb1 hz hB0 hR1 hcap
  gi_wp2_with fail
  refine range_gives rfl (enters_of Try.func56 (by kernel_rfl) rfl) HIT.out (fun b hb => by simp only [List.mem_cons, List.not_mem_nil, or_false] at hb; omega) (fun _ => rfl)
    (fun (pre : List Flt) Wx => pre = [] ∧ Blk Wx w.heap.size #[.bool false] 4 ∧ Below w.heap.size w Wx) (fun (pre : List Flt) Wx => Blk Wx w.heap.size #[.bool false] 4 ∧ Below w.heap.size w Wx) HS1.out HS2.out.x ⟨rfl, HR.out.1, HR.out.2⟩
    (fun x a' Wx => a' = { tmps := #[.slice (some ⟨bp, off, none⟩) zs.length cap, .iface T tv, undef, undef, .pointer (some ⟨w.heap.size, 0, none⟩), .slice (some ⟨bp, off, none⟩) zs.length cap, .iface T tv, .func (.func 56) #[] #[.pointer (some ⟨w.heap.size + 1, 0, none⟩), .pointer (some ⟨w.heap.size + 1 + 1, 0, none⟩)], .agg #[.int .i64 x.1, .int .i64 x.2.1, .int .i64 x.2.2]], defers := [] })
    (fun x a' A l' o o' h _ _ => h) ?assign ?body ?done ?stop
  case assign =>
    intro l' pre x rest Wx Kx' hall hI hs hK
    have HK := hidd hK
    clear hK hI
    dsimp only [encF]
    gi_wp2
    exact HK.out _ _ (Below.refl _ _) (by first | (simp; done) | kernel_rfl)
  case body =>
    rintro l' pre x rest a' Wx hall hs hI rfl
    have hc := hI.2.1.cell (j := 0) (show _ = some (Value.bool false) from rfl)
    have hf := hI.2.1.fro 0
    have K := hidd (show Kx [w.heap.size + 1, w.heap.size + 1 + 1, bp] w1.heap.size Wx (Wx.setCell ⟨w.heap.size, 0, none⟩ (.bool false)) ∧ Blk (Wx.setCell ⟨w.heap.size, 0, none⟩ (.bool false)) w.heap.size #[.bool false] 4 ∧ Below w.heap.size w (Wx.setCell ⟨w.heap.size, 0, none⟩ (.bool false)) from
      ⟨⟨by simp [World.setCell], fun k hk hb => heap_setCell_other Wx ⟨w.heap.size, 0, none⟩ k (.bool false) (by
        show k ≠ w.heap.size
        rcases hb with hb | hb
        · omega
        · simp only [List.mem_cons, List.not_mem_nil, or_false] at hb; omega)⟩, hI.2.1.same 0 (.bool false), hI.2.2.setCell (by show w.heap.size ≤ w.heap.size; omega) _⟩)
    clear hI
    gi_wp2
    exact K.out
  case done =>
    intro D Wx hD hI hdef
    have hc := hI.2.1.cell (j := 0) (show _ = some (Value.bool false) from rfl)
    have hf := hI.2.1.fro 0
    have hM := hidd (show Mks w1.heap.size [D] (Wx.setCell ⟨w.heap.size, 0, none⟩ (.bool true)) from (Mks.nil _ _).cons hD (by simp) ((heap_setCell_other Wx ⟨w.heap.size, 0, none⟩ D (.bool true) (by show D ≠ w.heap.size; omega)).trans hdef))
    have hB := hidd (And.intro (hI.2.1.same 0 (.bool true)) (hI.2.2.setCell (p := ⟨w.heap.size, 0, none⟩) (by show w.heap.size ≤ w.heap.size; omega) (.bool true)))
    have HE := hidd (show FT zs kind = [] from hI.1)
    clear hI hdef
    gi_wp2
    refine leave_marks (B := w1.heap.size) (v := .bool true) [D] _ hM.out (fun W' hb _ => ⟨?_, ?_, ?_⟩)
    · have hc2 := (hB.out.1.below hb (by omega)).cell (j := 0) (show _ = some (Value.bool true) from rfl)
      simp [results, Try.results36, go_sem, hc2]
    · rw [HE.out]; rfl
    · exact hB.out.2.trans (hb.mono (by omega))
  case stop =>
    intro D pre x rest Wx hD hall hIx hdef
    have hM := hidd (show Mks w1.heap.size [D] Wx from (Mks.nil _ _).cons hD (by simp) hdef)
    have hB := hidd hIx
    have HE := hidd (show (FT zs kind).isEmpty = false by unfold FT; rw [hall]; cases pre <;> rfl)
    clear hIx hdef hall
    gi_wp2
    refine leave_marks (B := w1.heap.size) (v := .bool false) [D] _ hM.out (fun W' hb _ => ⟨?_, ?_, ?_⟩)
    · have hc2 := (hB.out.1.below hb (by omega)).cell (j := 0) (show _ = some (Value.bool false) from rfl)
      simp [results, Try.results36, go_sem, hc2]
    · rw [HE.out]
    · exact hB.out.2.trans (hb.mono (by omega))
end Go.Proofs.Ythmjmlmmbmdodaa
