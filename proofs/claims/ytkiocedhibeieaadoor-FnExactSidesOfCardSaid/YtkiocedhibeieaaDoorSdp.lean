/- graph.sides: the program. -/
import Derived.Test.YtkiocedhibeieaaDoorSdm
import Derived.Test.YtkiocedhibeieaaDoorCpi
namespace Go.Proofs.YtkiocedhibeieaaDoor
set_option linter.unusedVariables false
set_option linter.unusedSimpArgs false
open Go Go.RowKit Go.Shelf
attribute [local go_sem] Oper.semAt_some
/-- Nothing but block b has turned. -/
def But (b : Nat) (w w' : World) : Prop := w'.os = w.os ∧ w'.tape = w.tape ∧ w'.output = w.output ∧ w.heap.size ≤ w'.heap.size ∧ ∀ k, k < w.heap.size → k ≠ b → w'.heap[k]? = w.heap[k]?
theorem But.of_below {b B : Nat} {w w' : World} (h : Below B w w') (hB : w.heap.size ≤ B) : But b w w' := ⟨h.os, h.tape, h.output, h.size, fun k hk _ => h.block k (by omega)⟩
theorem But.trans {b : Nat} {x y z : World} (h : But b x y) (k : But b y z) : But b x z :=
  ⟨k.1.trans h.1, k.2.1.trans h.2.1, k.2.2.1.trans h.2.2.1, Nat.le_trans h.2.2.2.1 k.2.2.2.1, fun i hi hb => (k.2.2.2.2 i (Nat.lt_of_lt_of_le hi h.2.2.2.1) hb).trans (h.2.2.2.2 i hi hb)⟩
theorem But.below {b B : Nat} {w w' : World} (h : But b w w') (hb : B ≤ b) (hB : B ≤ w.heap.size) : Below B w w' := ⟨h.1, h.2.1, h.2.2.1, h.2.2.2.1, fun k hk => h.2.2.2.2 k (by omega) (by omega)⟩
theorem But.set {b : Nat} {w w' : World} (h : But b w w') {o : Nat} (v : Value) : But b w (w'.setCell ⟨b, o, none⟩ v) :=
  ⟨h.1, h.2.1, h.2.2.1, by simpa [World.setCell] using h.2.2.2.1, fun k hk hkb => (heap_setCell_other w' ⟨b, o, none⟩ k v hkb).trans (h.2.2.2.2 k hk hkb)⟩
theorem But.blk {b g : Nat} {w w' : World} {C : Array Value} {t : TypeId} (h : But b w w') (hg : Blk w g C t) (hne : g ≠ b) : Blk w' g C t := (h.2.2.2.2 g hg.lt hne).trans hg
/-- The two sides as cells. -/
def two (x y : Nat) : Array Value := #[.int .u32 (x : Int), .int .u32 (y : Int)]
theorem info107 : (Tryd.prog.info? 107).map (fun i => (i.zero, i.size)) = some (some (.agg (two 0 0)), 2) := by kernel_rfl
theorem zero107 : ∀ w, (zeroValue 107).run Tryd.prog w = .ok (.agg (two 0 0)) w := (zero_of_info info107).1
theorem size107 (x y : Nat) : (Tryd.prog.info? 107).map (·.size) = some (two x y).size := by rw [(zero_of_info info107).2]; rfl
theorem ix107a (x y : Nat) (w : World) : (Instr.index 107 (.agg (two x y)) (.int .i64 0)).run Tryd.prog w = .ok (.int .u32 (x : Int)) w := by
  have hu : Tryd.prog.underlying 107 = some (.array 2 56) := by kernel_rfl
  have hi : (Tryd.prog.info? 56).map (·.size) = some 1 := by kernel_rfl
  obtain ⟨i, hi2, hsz⟩ := Option.map_eq_some_iff.1 hi
  simp [two, Instr.index, go_sem, hu, sizeOf, typeInfo, hi2, hsz]
theorem ix107b (x y : Nat) (w : World) : (Instr.index 107 (.agg (two x y)) (.int .i64 1)).run Tryd.prog w = .ok (.int .u32 (y : Int)) w := by
  have hu : Tryd.prog.underlying 107 = some (.array 2 56) := by kernel_rfl
  have hi : (Tryd.prog.info? 56).map (·.size) = some 1 := by kernel_rfl
  obtain ⟨i, hi2, hsz⟩ := Option.map_eq_some_iff.1 hi
  simp [two, Instr.index, go_sem, hu, sizeOf, typeInfo, hi2, hsz]
/-- What holds ahead of each component. -/
def RelSd (w : World) (U : Nat) (F : Nat → Nat) (cs : List Nat) (a : Option Addr) (Ds : List Nat) (j : Nat) (wr : World) : Prop :=
  Blk wr w.heap.size (gcell U F).toArray 79 ∧ Tz wr ∧ Below w.heap.size w wr ∧ Mks w.heap.size Ds wr ∧ UA wr a cs ∧ Blk wr (w.heap.size + 1) (two (sdA F 0 0 (cs.take j)) (sdA F 1 0 (cs.take j))) 107
theorem sdA_lt {F : Nat → Nat} (hF : ∀ p, F p < 2 ^ 17) (b : Nat) {cs : List Nat} (hc : ∀ j, j < cs.length → cs.getD j 0 ≠ 0 ∧ cs.getD j 0 < 2 ^ 17) (m : Nat) : sdA F b 0 (cs.take m) < 2 ^ 17 := bits_lt fun q hq => by
  rcases (sdA_bit _ _).1 hq with h | ⟨c, h1, k, _, _, h2⟩
  · simp at h
  · have h3 := List.mem_of_mem_take h1
    obtain ⟨i, hi, e⟩ := List.mem_iff_getElem.1 h3
    have h4 := hc i hi
    rw [show cs.getD i 0 = c by simp [List.getD, hi, e]] at h4
    exact bit_lt (cmL_lt (N := 17) hF (lo_bit h4.1 h4.2).2.2 k) h2
def RelEd (w : World) (U : Nat) (F : Nat → Nat) (S0 S1 : Nat) (Ds : List Nat) (wr : World) : Prop :=
  Blk wr w.heap.size (gcell U F).toArray 79 ∧ Tz wr ∧ Below w.heap.size w wr ∧ Mks w.heap.size Ds wr ∧ Blk wr (w.heap.size + 1) (two S0 S1) 107
noncomputable def okB (N : Nat) (F : Nat → Nat) (b : Nat) : Bool := decide (arU F (sdS N F b) 17 &&& sdS N F b = 0)
noncomputable def okA (N : Nat) (F : Nat → Nat) : Bool := okB N F 0 && okB N F 1
theorem okA_no {N : Nat} {F : Nat → Nat} {b : Nat} (hb : b < 2) (h : arU F (sdS N F b) 17 &&& sdS N F b ≠ 0) : okA N F = false := by
  have e : okB N F b = false := decide_eq_false h
  unfold okA
  have hb2 : b = 0 ∨ b = 1 := by omega
  rcases hb2 with rfl | rfl
  · rw [e]; rfl
  · rw [e, Bool.and_false]
theorem okA_yes {N : Nat} {F : Nat → Nat} (h0 : arU F (sdS N F 0) 17 &&& sdS N F 0 = 0) (h1 : arU F (sdS N F 1) 17 &&& sdS N F 1 = 0) : okA N F = true := by
  unfold okA okB
  rw [decide_eq_true h0, decide_eq_true h1]; rfl
set_option maxRecDepth 100000 in
set_option maxHeartbeats 4000000 in
theorem sides70 (N : Nat) (F : Nat → Nat) (h : Nbrs N F) (n1 : 1 ≤ N) (w : World) (hT : Tz w) (hw0 : 0 < w.heap.size) :
    Calls Tryd.prog 70 #[.agg (gcell (2 ^ N - 1) F).toArray] w fun e w' => e = .returned (.tuple #[.int .u32 ((if okA N F = true then sdS N F 1 else 0 : Nat) : Int), .bool (okA N F)]) ∧ Below w.heap.size w w' := by
  have ht := h.top
  have hF := h.lt17
  obtain ⟨ans, hans⟩ : ∃ v, v = Value.tuple #[.int .u32 ((if okA N F = true then sdS N F 1 else 0 : Nat) : Int), .bool (okA N F)] := ⟨_, rfl⟩
  rw [← hans]
  have HANS := hidd hans
  clear hans
  obtain ⟨U, hU⟩ : ∃ U, U = 2 ^ N - 1 := ⟨_, rfl⟩
  have hU17 : U < 2 ^ 17 := by rw [hU]; have := Nat.pow_le_pow_right (show 0 < 2 by omega) ht; have := Nat.two_pow_pos N; omega
  obtain ⟨cs, hcs⟩ : ∃ cs, cs = cpN N F := ⟨_, rfl⟩
  have hcp : cpl F U = cs := by rw [hU, hcs]; rfl
  have hl17 : cs.length ≤ 17 := by rw [hcs, h.comps]; have := mps_len F N N 0 0; omega
  have HCV := hidd (show ∀ j, j < cs.length → cs.getD j 0 ≠ 0 ∧ cs.getD j 0 < 2 ^ 17 from fun j hj => by
    have e : cs.getD j 0 = cs[j] := by simp [List.getD, hj]
    obtain ⟨v, hv, hv2⟩ := h.comp_mem (c := cs[j]) (by rw [← hcs]; exact List.getElem_mem hj)
    rw [e, hv2]
    refine ⟨fun e0 => ?_, Nat.lt_of_lt_of_le (cmC_lt h.lt hv) (Nat.pow_le_pow_right (by omega) ht)⟩
    have := cmC_own (F := F) (N := N) (v := v)
    rw [e0] at this
    simp at this)
  have HCO := hidd (fun W hW hp => components68 U F hF hU17 (by rw [hcp]; exact hl17) W hW hp)
  rw [hcp] at HCO
  have HS0 := hidd (show ∀ b, sdA F b 0 (cs.take cs.length) = sdS N F b from fun b => by rw [List.take_length, hcs]; rfl)
  have HSLT := hidd (fun b => sdS_lt (b := b) h)
  rw [← hU]
  have HF := hidd hF
  have HT := hidd hT
  have HSZ := hidd (size79 U F)
  have Hz := zero107
  have HL17 := hidd hl17
  clear hU hU17 hcs hcp hl17 hF hT
  refine (callsIn_wide (n := 3)).1 (callsIn_of_wp_marks Tryd.func70 rfl trivial ?_ rfl)
  simp only [Tryd.ntmps70, List.size_toArray, List.length_cons, List.length_nil, Nat.reduceAdd, Nat.reduceSub, Array.replicate_succ, Array.replicate_zero, List.push_toArray, List.append_toArray, List.nil_append, List.cons_append]
  gi_wp2_with (refine inLoadRow rfl 79 (.tmp 1) rfl w.heap.size rfl 79 _ _ ((Blk.new w (gcell U F).toArray 79 _ rfl).alloc _) Tryd.underlying79 rfl HSZ.out ?_)
  have hb00 : Below w.heap.size w ((w.alloc (.cells (gcell U F).toArray 79)).alloc (.cells (two 0 0) 107)) := ((Below.refl _ _).alloc (Nat.le_refl _) _).alloc (by simp) _
  refine ⟨trivial, (callsIn_wide.2 (HCO.out _ (HT.out.below hb00 hw0) (by simp))).mono ?_⟩
  rintro e w1 ⟨vl, rfl, hul, hb1⟩
  obtain ⟨a, cap, rfl, hua⟩ := hul.reads
  have hR0 : RelSd w U F cs a [] 0 w1 := ⟨((Blk.new _ _ _ _ rfl).alloc _).below hb1 (by simp; omega), HT.out.below (hb00.trans (hb1.mono hb00.size)) hw0, hb00.trans (hb1.mono hb00.size), Mks.nil _ _, hua, (Blk.new (w.alloc (.cells (gcell U F).toArray 79)) (two 0 0) 107 (w.heap.size + 1) (by simp)).below hb1 (by simp)⟩
  have HR0 := hidd hR0
  clear hul hua hb1 hb00 hR0
  gi_wp2_with fail
  refine wpIn_loop (fun ac wr => ∃ (Ds : List Nat) (j : Nat) (u5 u6 u7 u8 u9 u10 u15 u16 u17 u18 u19 u20 u21 u22 u23 u24 u25 u26 u27 u28 u29 u30 u31 u32 u33 u34 u35 u36 u37 u38 u39 u40 u41 u42 u43 u44 : Value), ac = { tmps := #[Value.agg (gcell U F).toArray, .pointer (some ⟨w.heap.size, 0, none⟩), .int .u32 0, .bool false, .pointer (some ⟨w.heap.size + 1, 0, none⟩), u5, u6, u7, u8, u9, u10, .agg (gcell U F).toArray, .slice a cs.length cap, .int .i64 (cs.length : Int), .int .i64 (j : Int), u15, u16, u17, u18, u19, u20, u21, u22, u23, u24, u25, u26, u27, u28, u29, u30, u31, u32, u33, u34, u35, u36, u37, u38, u39, u40, u41, u42, u43, u44], defers := Ds.map mk } ∧ j ≤ cs.length ∧ Hid (RelSd w U F cs a Ds j wr)) (fun ac _ => cs.length - (intOf (ac.tmps.getD 14 undef)).toNat) ?_ ?_
  · exact ⟨[], 0, _, _, _, _, _, _, _, _, _, _, _, _, _, _, _, _, _, _, _, _, _, _, _, _, _, _, _, _, _, _, _, _, _, _, _, _, rfl, Nat.zero_le _, HR0⟩
  · clear HR0
    rintro ac wr ⟨Ds, j, u5, u6, u7, u8, u9, u10, u15, u16, u17, u18, u19, u20, u21, u22, u23, u24, u25, u26, u27, u28, u29, u30, u31, u32, u33, u34, u35, u36, u37, u38, u39, u40, u41, u42, u43, u44, rfl, hj, HR⟩
    by_cases hlt : j < cs.length
    · have hltI : decide ((j : Int) < (cs.length : Int)) = true := by simp; omega
      have hl17 := HL17.out
      obtain ⟨C, hC⟩ : ∃ C, C = cs.getD j 0 := ⟨_, rfl⟩
      have hCC := HCV.out j hlt
      rw [← hC] at hCC
      obtain ⟨hC0, hC17⟩ := hCC
      obtain ⟨vx, hvx⟩ : ∃ x, x = Lib.ctz 32 C := ⟨_, rfl⟩
      have hv17 : vx < 17 := by rw [hvx]; exact (lo_bit hC0 hC17).2.2
      have HTK := hidd (show ∀ b, sdA F b 0 (cs.take (j + 1)) = sdA F b 0 (cs.take j) ||| lyB F vx b (kE F vx) from fun b => by
        rw [List.take_succ_eq_append_getElem hlt]
        unfold sdA
        rw [List.foldl_append]
        have e : cs[j] = C := by rw [hC]; simp [List.getD, hlt]
        simp only [List.foldl_cons, List.foldl_nil, e, ← hvx])
      obtain ⟨hK, hK'⟩ := kE_spec HF.out hv17
      have HKK := hidd (And.intro hK hK')
      have HFI := hidd (fun W' h => first85 C hC17 hC0 W' h)
      rw [← hvx] at HFI
      rcases HR.out.2.2.2.2.1 with e | ⟨g, Cc, ha, hB, hCj⟩
      · subst e; simp at hlt
      · subst ha
        have cj := hB.cell (hCj j hlt)
        rw [← hC] at cj
        have hgr := HR.out.1
        clear hC hvx hB hCj hK hK'
        have HL4 := hidd (layers84b U vx F wr.drew)
        have hg0 : g < wr.heap.size := block_lt_of_cell cj
        gi_wp2_with fail
        refine wpIn_region_tail_lit ⟨fun _ => trivial, fun h => (by cases h), fun f args w R h => callsIn_wide.2 h⟩ 3 (fun w' => w' = wr.drew) (by decide) (by kernel_rfl) rfl (by kernel_rfl) (by kernel_rfl) (by kernel_rfl) (by kernel_rfl) (by kernel_rfl) ?_
        simp only [List.take_succ_cons, List.take_zero, List.drop_succ_cons, List.drop_zero, List.map_cons, List.map_nil, List.cons_append, List.nil_append, idle]
        refine qs rfl (fun KQ hKQ => ?_)
        apply Exists.intro
        refine ⟨fun w' hw' => ?_, ?_⟩
        · subst hw'; exact quietRow 79 (.tmp 1) rfl w.heap.size rfl 79 _ _ hgr.drew Tryd.underlying79 rfl HSZ.out
        go_simp
        refine hKQ _ ?_
        clear hKQ KQ
        refine qs rfl (fun KQ hKQ => ?_)
        apply Exists.intro
        refine ⟨fun w' hw' => ?_, ?_⟩
        · go_simp; exact rfl
        go_simp
        refine hKQ _ ?_
        clear hKQ KQ
        refine qs rfl (fun KQ hKQ => ?_)
        apply Exists.intro
        refine ⟨fun w' hw' => ?_, ?_⟩
        · subst hw'; go_simp; exact (HFI.out _ (show Tz wr.drew from HR.out.2.1)).mono fun _ _ h => ⟨h.1, h.2.symm⟩
        go_simp
        refine hKQ _ ?_
        clear hKQ KQ
        refine qs rfl (fun KQ hKQ => ?_)
        apply Exists.intro
        refine ⟨fun w' hw' => ?_, ?_⟩
        · go_simp; exact rfl
        go_simp
        refine hKQ _ ?_
        clear hKQ KQ
        refine wpQuiet_nil ?_
        intro w' hw'
        subst hw'
        gi_wp2_with fail
        refine ⟨trivial, (callsIn_wide.2 HL4.out).mono ?_⟩
        rintro e w2 ⟨rfl, f1, f2, hb2⟩
        rw [show wr.drew.heap.size = wr.heap.size from rfl] at f1 f2 hb2 ⊢
        have hb2' : Below wr.heap.size wr w2 := ((Below.refl wr.heap.size wr).drew).trans hb2
        have hT2 : Tz w2 := HR.out.2.1.below hb2' (by omega)
        have hl2 : wr.heap.size + 1 < w2.heap.size := f2.lt
        have hBv : Blk wr (w.heap.size + 1) (two (sdA F 0 0 (cs.take j)) (sdA F 1 0 (cs.take j))) 107 := HR.out.2.2.2.2.2
        have hbv := hBv.lt
        obtain ⟨s0, hs0⟩ : ∃ s, s = sdA F 0 0 (cs.take j) := ⟨_, rfl⟩
        obtain ⟨s1, hs1⟩ : ∃ s, s = sdA F 1 0 (cs.take j) := ⟨_, rfl⟩
        have hsl : s0 < 2 ^ 17 ∧ s1 < 2 ^ 17 := by rw [hs0, hs1]; exact ⟨sdA_lt HF.out 0 HCV.out j, sdA_lt HF.out 1 HCV.out j⟩
        have HSS := hidd (And.intro hs0 hs1)
        rw [← hs0, ← hs1] at hBv
        have HIT := hidd (gives92 1 (wr.heap.size + 1) wr.heap.size U vx (kE F vx) F HF.out hv17 HKK.out.1 HKK.out.2 w2 f2 f1 hT2)
        have HI0 := hidd (show But (w.heap.size + 1) wr w2 ∧ Blk w2 (w.heap.size + 1) (two (s0 ||| lyB F vx 0 ([] : List Nat).length) (s1 ||| lyB F vx 1 ([] : List Nat).length)) 107 from
          ⟨But.of_below hb2' (Nat.le_refl _), by have h1 := hBv.below hb2' hbv; simpa [lyB] using h1⟩)
        have HST := hidd (show Stab w2.heap.size (fun (p : List Nat) Wx => But (w.heap.size + 1) wr Wx ∧ Blk Wx (w.heap.size + 1) (two (s0 ||| lyB F vx 0 p.length) (s1 ||| lyB F vx 1 p.length)) 107) from
          fun p A A' h hb => ⟨⟨hb.os.trans h.1.1, hb.tape.trans h.1.2.1, hb.output.trans h.1.2.2.1, Nat.le_trans h.1.2.2.2.1 hb.size, fun k hk hkb => (hb.block k (by omega)).trans (h.1.2.2.2.2 k hk hkb)⟩, h.2.below hb (by omega)⟩)
        have HLL := hidd (cmL_lt (N := 17) HF.out hv17)
        have HYL := hidd (fun b K => lyB_lt (b := b) HF.out hv17 K)
        clear f1 f2 hb2 hb2' hT2 HFI HL4 hs0 hs1 hBv cj hgr
        gi_wp2_with fail
        refine range_gives rfl (enters_of Tryd.func92 (by kernel_rfl) rfl) HIT.out (fun b hb => by simp only [List.mem_cons, List.not_mem_nil, or_false] at hb; omega) (fun _ => rfl)
          (fun (p : List Nat) Wx => But (w.heap.size + 1) wr Wx ∧ Blk Wx (w.heap.size + 1) (two (s0 ||| lyB F vx 0 p.length) (s1 ||| lyB F vx 1 p.length)) 107) (fun _ _ => False) HST.out (fun _ _ _ h _ _ => h) HI0.out
          (fun x a' Wx => a' = { tmps := #[Value.agg (gcell U F).toArray, .pointer (some ⟨w.heap.size, 0, none⟩), .int .u32 0, .bool false, .pointer (some ⟨w.heap.size + 1, 0, none⟩), u5, .int .u32 (C : Int), .int .i64 (x : Int), .int .u32 (cmL F 17 vx x : Nat), u9, u10, .agg (gcell U F).toArray, .slice (some ⟨g, 0, none⟩) cs.length cap, .int .i64 (cs.length : Int), .int .i64 (j : Int), .bool true, .pointer (some ⟨g, j, none⟩), .int .u32 (C : Int), .agg (gcell U F).toArray, .int .u32 (C : Int), .int .i64 (vx : Int), .func (.func 92) #[] #[.pointer (some ⟨wr.heap.size + 1, 0, none⟩), .pointer (some ⟨wr.heap.size, 0, none⟩)], .int .i64 (x : Int), .int .u32 (cmL F 17 vx x : Nat), u24, u25, u26, u27, u28, u29, u30, u31, u32, u33, u34, u35, u36, u37, u38, u39, u40, u41, u42, u43, u44], defers := [] })
          (fun x a' A l' o o' h _ _ => h) ?assign ?body ?done ?stop
        case assign =>
          intro l' p x rest Wx Kx' hall hI hs hKc
          have HKc := hidd hKc
          clear hKc hI
          dsimp only [encL]
          gi_wp2
          exact HKc.out _ _ (Below.refl _ _) rfl
        case body =>
          rintro l' p x rest a' Wx hall hs hI rfl
          have hx := range_at hall
          subst hx
          have hc0 := hI.2.cell (j := 0) (show _ = some (Value.int .u32 ((s0 ||| lyB F vx 0 p.length : Nat) : Int)) from rfl)
          have hc1 := hI.2.cell (j := 1) (show _ = some (Value.int .u32 ((s1 ||| lyB F vx 1 p.length : Nat) : Int)) from rfl)
          have hf0 := hI.2.fro 0
          have hf1 := hI.2.fro 1
          have h0l := HYL.out 0 p.length
          have h1l := HYL.out 1 p.length
          have hLl := HLL.out p.length
          have hlp : (p ++ [p.length]).length = p.length + 1 := by simp
          have hno : ∀ (W' : World) (o : Nat) (v : Value), W' = Wx.setCell ⟨w.heap.size + 1, o, none⟩ v → Kx [wr.heap.size + 1, wr.heap.size, 0] w2.heap.size Wx W' ∧ But (w.heap.size + 1) wr W' := by
            rintro W' o v rfl
            exact ⟨⟨by simp [World.setCell], fun k hk hb => heap_setCell_other Wx ⟨w.heap.size + 1, o, none⟩ k _ (by
              show k ≠ w.heap.size + 1
              rcases hb with hb | hb
              · omega
              · simp only [List.mem_cons, List.not_mem_nil, or_false] at hb; omega)⟩, hI.1.set v⟩
          rcases Nat.mod_two_eq_zero_or_one p.length with hm | hm
          · have hr : Int.tmod ((p.length : Nat) : Int) 2 = 0 := by rw [Int.tmod_eq_emod_of_nonneg (by omega)]; omega
            have hor := u32_or_nat (s0 ||| lyB F vx 0 p.length) (cmL F 17 vx p.length) (by have := Nat.or_lt_two_pow hsl.1 h0l; omega) (by omega)
            have e0 : s0 ||| lyB F vx 0 (p.length + 1) = (s0 ||| lyB F vx 0 p.length) ||| cmL F 17 vx p.length := by rw [lyB, if_pos hm, Nat.or_assoc]
            have e1 : lyB F vx 1 (p.length + 1) = lyB F vx 1 p.length := by rw [lyB, if_neg (by omega)]
            have KK := hidd (show _ ∧ (_ ∧ Blk (Wx.setCell ⟨w.heap.size + 1, 0, none⟩ (.int .u32 (((s0 ||| lyB F vx 0 p.length) ||| cmL F 17 vx p.length : Nat) : Int))) (w.heap.size + 1) (two (s0 ||| lyB F vx 0 (p ++ [p.length]).length) (s1 ||| lyB F vx 1 (p ++ [p.length]).length)) 107) from
              ⟨(hno _ 0 (.int .u32 (((s0 ||| lyB F vx 0 p.length) ||| cmL F 17 vx p.length : Nat) : Int)) rfl).1, (hno _ 0 (.int .u32 (((s0 ||| lyB F vx 0 p.length) ||| cmL F 17 vx p.length : Nat) : Int)) rfl).2, by rw [hlp, e0, e1]; exact hI.2.same 0 _⟩)
            clear hI hno h0l h1l hLl hlp e0 e1
            gi_wp2
            exact KK.out
          · have hr : Int.tmod ((p.length : Nat) : Int) 2 = 1 := by rw [Int.tmod_eq_emod_of_nonneg (by omega)]; omega
            have hor := u32_or_nat (s1 ||| lyB F vx 1 p.length) (cmL F 17 vx p.length) (by have := Nat.or_lt_two_pow hsl.2 h1l; omega) (by omega)
            have e0 : s1 ||| lyB F vx 1 (p.length + 1) = (s1 ||| lyB F vx 1 p.length) ||| cmL F 17 vx p.length := by rw [lyB, if_pos hm, Nat.or_assoc]
            have e1 : lyB F vx 0 (p.length + 1) = lyB F vx 0 p.length := by rw [lyB, if_neg (by omega)]
            have KK := hidd (show _ ∧ (_ ∧ Blk (Wx.setCell ⟨w.heap.size + 1, 1, none⟩ (.int .u32 (((s1 ||| lyB F vx 1 p.length) ||| cmL F 17 vx p.length : Nat) : Int))) (w.heap.size + 1) (two (s0 ||| lyB F vx 0 (p ++ [p.length]).length) (s1 ||| lyB F vx 1 (p ++ [p.length]).length)) 107) from
              ⟨(hno _ 1 (.int .u32 (((s1 ||| lyB F vx 1 p.length) ||| cmL F 17 vx p.length : Nat) : Int)) rfl).1, (hno _ 1 (.int .u32 (((s1 ||| lyB F vx 1 p.length) ||| cmL F 17 vx p.length : Nat) : Int)) rfl).2, by rw [hlp, e0, e1]; exact hI.2.same 1 _⟩)
            clear hI hno h0l h1l hLl hlp e0 e1
            gi_wp2
            exact KK.out
        case stop =>
          intro D p x rest Wx hD hall h
          exact h.elim
        case done =>
          intro D Wx hD hI hdef
          obtain ⟨hI1, hI2⟩ := hI
          rw [List.length_range] at hI2
          have hDn : ¬ D ∈ Ds := fun h => by have := HR.out.2.2.2.1.lt h; omega
          have RW := hidd (show RelSd w U F cs (some ⟨g, 0, none⟩) (D :: Ds) (j + 1) Wx from by
            obtain ⟨q1, q2, q3, q4, q5, q6⟩ := HR.out
            refine ⟨hI1.blk q1 (by omega), q2.kp (hI1.2.2.2.2 0 (by omega) (by omega)), q3.trans (hI1.below (by omega) (by omega)), ?_, ?_, ?_⟩
            · refine Mks.cons ⟨q4.1, fun E hE => ⟨(q4.2 E hE).1, (hI1.2.2.2.2 E (q4.lt hE) (fun e => ?_)).trans (q4.2 E hE).2⟩⟩ (by omega) hDn hdef
              have h1 := (q4.2 E hE).2
              rw [e, show wr.heap[w.heap.size + 1]? = _ from q6] at h1
              cases h1
            · rcases q5 with e | ⟨g', C', h1, h2, h3⟩
              · exact .inl e
              · refine .inr ⟨g', C', h1, hI1.blk h2 (fun e => ?_), h3⟩
                subst e
                unfold Blk at h2 q6
                rw [h2] at q6
                injection q6 with q6
                injection q6 with _ q6 _
                cases q6
            · rw [HTK.out 0, HTK.out 1, ← HSS.out.1, ← HSS.out.2]
              exact hI2)
          clear hI1 hI2 hDn hdef HIT HI0 HST HLL HYL HKK HSS
          gi_wp2_with fail
          refine ⟨⟨D :: Ds, j + 1, _, _, _, _, _, _, _, _, _, _, _, _, _, _, _, _, _, _, _, _, _, _, _, _, _, _, _, _, _, _, _, _, _, _, _, _, rfl, by omega, RW⟩, ?_⟩
          show cs.length - (intOf (Value.int .i64 ((j : Int) + 1))).toNat < cs.length - (intOf (Value.int .i64 (j : Int))).toNat
          simp [intOf]; omega
    · have hltI : decide ((j : Int) < (cs.length : Int)) = false := by simp; omega
      have hjS : j = cs.length := by omega
      subst hjS
      obtain ⟨q1, q2, q3, q4, q5, q6⟩ := HR.out
      rw [HS0.out 0, HS0.out 1] at q6
      obtain ⟨S0, hS0⟩ : ∃ s, s = sdS N F 0 := ⟨_, rfl⟩
      obtain ⟨S1, hS1⟩ : ∃ s, s = sdS N F 1 := ⟨_, rfl⟩
      have h0l : S0 < 2 ^ 17 := by rw [hS0]; exact HSLT.out 0
      have h1l : S1 < 2 ^ 17 := by rw [hS1]; exact HSLT.out 1
      rw [← hS0, ← hS1] at q6
      have HQ := hidd (And.intro q1 (And.intro q2 (And.intro q3 (And.intro q4 q6))))
      have HA := hidd (fun S hS W hW hp => around86 U F S hS HF.out W hW hp)
      have HSZ2 := hidd (size107 S0 S1)
      have HS01 := hidd (And.intro hS0 hS1)
      have hia := ix107a S0 S1
      have hib := ix107b S0 S1
      clear hS0 hS1
      clear q1 q2 q3 q4 q5 q6
      have HE0 := hidd (show RelEd w U F S0 S1 Ds wr from HQ.out)
      gi_wp2_with (refine inLoadRow rfl 107 (.tmp 4) rfl (w.heap.size + 1) rfl 107 _ _ HQ.out.2.2.2.2 Tryd.underlying107 rfl HSZ2.out ?_)
      gi_loopw [33] (fun e wq => ∃ i : Nat, i ≤ 2 ∧ e = .int .i64 (i : Int) ∧ Hid (∀ b, b < i → arU F (if b = 0 then S0 else S1) 17 &&& (if b = 0 then S0 else S1) = 0) ∧ Hid (RelEd w U F S0 S1 Ds wq)) (fun e _ => 2 - (intOf e).toNat)
      case atStart => exact ⟨0, by omega, rfl, hidd (fun b hb => absurd hb (by omega)), HE0⟩
      case round =>
      clear HE0 HQ
      obtain ⟨wq, rfl⟩ : ∃ wq, wq = wr := ⟨_, rfl⟩
      obtain ⟨i, hi, rfl, HV, HE⟩ := hrel
      have hi3 : i = 0 ∨ i = 1 ∨ i = 2 := by omega
      rcases hi3 with rfl | rfl | rfl
      · obtain ⟨X, hX⟩ : ∃ X, X = arU F S0 17 := ⟨_, rfl⟩
        have hX17 : X < 2 ^ 17 := by rw [hX]; exact arU_lt HF.out 17
        have HAW := hidd (HA.out S0 h0l wq HE.out.2.1 (by have := HE.out.2.2.1.size; omega))
        rw [← hX] at HAW
        have hand := u32_and_nat X S0 (by omega) (by omega)
        obtain ⟨Y, hY⟩ : ∃ Y, Y = X &&& S0 := ⟨_, rfl⟩
        rw [← hY] at hand
        have HY := hidd (show Y = arU F S0 17 &&& S0 by rw [hY, hX])
        clear hX hY
        cases hq : ((Y : Int) != 0) with
        | true =>
          have hYn : Y ≠ 0 := by rintro rfl; simp at hq
          have HNO := hidd (show okA N F = false from okA_no (b := 0) (by omega) (by rw [← HS01.out.1, ← HY.out]; exact hYn))
          gi_wp2_with (refine inLoadRow rfl 79 (.tmp 1) rfl w.heap.size rfl 79 _ _ HE.out.1 Tryd.underlying79 rfl HSZ.out ?_)
          refine ⟨trivial, (callsIn_wide.2 HAW.out).mono ?_⟩
          rintro e W2 ⟨rfl, hb2⟩
          have HM := hidd (show Mks w.heap.size Ds W2 from HE.out.2.2.2.1.below (fun D hD => HE.out.2.2.2.1.lt hD) hb2)
          have HB := hidd (HE.out.2.2.1.trans (hb2.mono HE.out.2.2.1.size))
          clear hb2
          gi_wp2
          exact leave_marks (v := .tuple #[.int .u32 0, .bool false]) Ds W2 HM.out (fun W' hb hcc => ⟨by simp [results, Tryd.results70, go_sem], by rw [HANS.out, HNO.out]; rfl, HB.out.trans hb⟩)
        | false =>
          have hYn : Y = 0 := by simpa using hq
          gi_wp2_with (refine inLoadRow rfl 79 (.tmp 1) rfl w.heap.size rfl 79 _ _ HE.out.1 Tryd.underlying79 rfl HSZ.out ?_)
          refine ⟨trivial, (callsIn_wide.2 HAW.out).mono ?_⟩
          rintro e W2 ⟨rfl, hb2⟩
          have K2 := hidd (show RelEd w U F S0 S1 Ds W2 from ⟨HE.out.1.below hb2 HE.out.1.lt, HE.out.2.1.below hb2 (by have := HE.out.2.2.1.size; omega), HE.out.2.2.1.trans (hb2.mono HE.out.2.2.1.size), HE.out.2.2.2.1.below (fun D hD => HE.out.2.2.2.1.lt hD) hb2, HE.out.2.2.2.2.below hb2 HE.out.2.2.2.2.lt⟩)
          have HV2 := hidd (show ∀ b, b < 0 + 1 → arU F (if b = 0 then S0 else S1) 17 &&& (if b = 0 then S0 else S1) = 0 from fun b hb => by
            by_cases e : b = 0
            · subst e; show arU F S0 17 &&& S0 = 0; rw [← HY.out]; exact hYn
            · exact HV.out b (by omega))
          clear hb2
          gi_wp2_with fail
          go_roundw
          case rel => exact ⟨0 + 1, by omega, by go_num, HV2, K2⟩
          case measure => simp [intOf]
      · obtain ⟨X, hX⟩ : ∃ X, X = arU F S1 17 := ⟨_, rfl⟩
        have hX17 : X < 2 ^ 17 := by rw [hX]; exact arU_lt HF.out 17
        have HAW := hidd (HA.out S1 h1l wq HE.out.2.1 (by have := HE.out.2.2.1.size; omega))
        rw [← hX] at HAW
        have hand := u32_and_nat X S1 (by omega) (by omega)
        obtain ⟨Y, hY⟩ : ∃ Y, Y = X &&& S1 := ⟨_, rfl⟩
        rw [← hY] at hand
        have HY := hidd (show Y = arU F S1 17 &&& S1 by rw [hY, hX])
        clear hX hY
        cases hq : ((Y : Int) != 0) with
        | true =>
          have hYn : Y ≠ 0 := by rintro rfl; simp at hq
          have HNO := hidd (show okA N F = false from okA_no (b := 1) (by omega) (by rw [← HS01.out.2, ← HY.out]; exact hYn))
          gi_wp2_with (refine inLoadRow rfl 79 (.tmp 1) rfl w.heap.size rfl 79 _ _ HE.out.1 Tryd.underlying79 rfl HSZ.out ?_)
          refine ⟨trivial, (callsIn_wide.2 HAW.out).mono ?_⟩
          rintro e W2 ⟨rfl, hb2⟩
          have HM := hidd (show Mks w.heap.size Ds W2 from HE.out.2.2.2.1.below (fun D hD => HE.out.2.2.2.1.lt hD) hb2)
          have HB := hidd (HE.out.2.2.1.trans (hb2.mono HE.out.2.2.1.size))
          clear hb2
          gi_wp2
          exact leave_marks (v := .tuple #[.int .u32 0, .bool false]) Ds W2 HM.out (fun W' hb hcc => ⟨by simp [results, Tryd.results70, go_sem], by rw [HANS.out, HNO.out]; rfl, HB.out.trans hb⟩)
        | false =>
          have hYn : Y = 0 := by simpa using hq
          gi_wp2_with (refine inLoadRow rfl 79 (.tmp 1) rfl w.heap.size rfl 79 _ _ HE.out.1 Tryd.underlying79 rfl HSZ.out ?_)
          refine ⟨trivial, (callsIn_wide.2 HAW.out).mono ?_⟩
          rintro e W2 ⟨rfl, hb2⟩
          have K2 := hidd (show RelEd w U F S0 S1 Ds W2 from ⟨HE.out.1.below hb2 HE.out.1.lt, HE.out.2.1.below hb2 (by have := HE.out.2.2.1.size; omega), HE.out.2.2.1.trans (hb2.mono HE.out.2.2.1.size), HE.out.2.2.2.1.below (fun D hD => HE.out.2.2.2.1.lt hD) hb2, HE.out.2.2.2.2.below hb2 HE.out.2.2.2.2.lt⟩)
          have HV2 := hidd (show ∀ b, b < 1 + 1 → arU F (if b = 0 then S0 else S1) 17 &&& (if b = 0 then S0 else S1) = 0 from fun b hb => by
            by_cases e : b = 1
            · subst e; show arU F S1 17 &&& S1 = 0; rw [← HY.out]; exact hYn
            · exact HV.out b (by omega))
          clear hb2
          gi_wp2_with fail
          go_roundw
          case rel => exact ⟨1 + 1, by omega, by go_num, HV2, K2⟩
          case measure => simp [intOf]
      · have HYES := hidd (show okA N F = true from okA_yes (by have h1 := HV.out 0 (by omega); rw [← HS01.out.1]; exact h1) (by have h1 := HV.out 1 (by omega); rw [← HS01.out.2]; exact h1))
        have hc1 := HE.out.2.2.2.2.cell (j := 1) (show _ = some (Value.int .u32 (S1 : Int)) from rfl)
        gi_wp2_with fail
        exact leave_marks (v := .tuple #[.int .u32 (S1 : Int), .bool true]) Ds wq HE.out.2.2.2.1 (fun W' hb hcc => ⟨by simp [results, Tryd.results70, go_sem], by rw [HANS.out, HYES.out, ← HS01.out.2]; rfl, HE.out.2.2.1.trans hb⟩)
end Go.Proofs.YtkiocedhibeieaaDoor
