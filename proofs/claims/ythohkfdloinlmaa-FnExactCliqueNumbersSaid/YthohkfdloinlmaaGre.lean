/- CliqueNumbers: the model's text. -/
import Derived.Test.YthohkfdloinlmaaCnM
namespace Go.Proofs.Ythohkfdloinlmaa
set_option linter.unusedVariables false
set_option linter.unusedSimpArgs false
open Go Go.RowKit Go.Shelf
theorem ll_one {w : World} {v : Value} {z : List Int} (h : LL w v [z]) : ∃ g cap, v = .slice (some ⟨g, 0, none⟩) 1 cap ∧ ∃ a c, w.cell? ⟨g, 0, none⟩ = some (.slice a z.length c) := by
  obtain ⟨xs, ⟨hxl, h1⟩, h2⟩ := h
  obtain ⟨a, c, hx, _⟩ := h2 0 z rfl
  rcases h1 with h1 | ⟨g, cap, cur, hv, hg, hc, hle, hmx, hsz, htk⟩
  · simp at h1
  · refine ⟨g, cap, hv, a, c, ?_⟩
    have hb : Blk w g cur 25 := hc
    refine hb.cell ?_
    rw [← htk, List.getElem?_take_of_lt (by simp)] at hx
    simpa using hx
def sliLen : Value → Nat
  | .slice _ n _ => n
  | _ => 0
set_option maxRecDepth 100000 in
set_option maxHeartbeats 1000000 in
theorem greatest32 (N : Nat) (k : Int) (bs : List Nat) (hb : Bys bs) (c : Int) (n1 : 1 ≤ N) (hN17 : N ≤ 17) (w : World) :
    Calls Try.prog 32 #[.agg (ccells (N : Int) k bs).toArray, .int .i64 c] w fun e w' => ∃ a cap, e = .returned (.slice a (gsz N bs c) cap) ∧ Below w.heap.size w w' := by
  have HS := hidd (size_c26 (N : Int) k hb)
  have HLI := hidd (fun (m : Nat) (hm : m ≤ 18) (W : World) => list45 N k bs hb c m 1 n1 hN17 hm (by omega) (by omega) W)
  have h1 : 1 ≤ gsz N bs c := gsz_pos n1 hN17
  have h17 : gsz N bs c ≤ N := gsz_le hN17
  have HE := hidd (fun (m : Nat) (h : gsz N bs c < m) => gsz_none hN17 h)
  have HF := hidd (fun (m : Nat) (h0 : m ≠ 0) (h : m ≤ gsz N bs c) => gsz_some hN17 h0 h)
  obtain ⟨G, hG⟩ : ∃ G, G = gsz N bs c := ⟨_, rfl⟩
  rw [← hG] at h1 h17 HE HF ⊢
  clear hG
  go_enter Try.func32, Try.ntmps32
  go_wp2_with fail
  go_loopw [5, 6] (fun v nx wr => ∃ (L : Nat) (a : Option Addr) (cap : Nat), 1 ≤ L ∧ L ≤ G ∧ v = .slice a L cap ∧ Hid (Blk wr w.heap.size (ccells (N : Int) k bs).toArray 28 ∧ Below w.heap.size w wr)) (fun v _ _ => 18 - sliLen v)
  case atStart => exact ⟨1, _, _, Nat.le_refl _, h1, rfl, (Blk.new _ _ _ _ rfl).alloc _, ((Below.refl _ _).alloc (Nat.le_refl _) _).alloc (by simp) _⟩
  case round =>
    obtain ⟨L, a, cap, hL1, hLG, rfl, HK⟩ := hrel
    obtain ⟨m, hm⟩ : ∃ m, m = L + 1 := ⟨_, rfl⟩
    have hwl : IntKind.i64.wrap ((L : Int) + 1) = (m : Int) := by rw [IntWalk.i64_in _ (by omega)]; omega
    by_cases hlt : L < G
    · have hx := HF.out m (by omega) (by omega)
      obtain ⟨z, hz, hzm⟩ : ∃ z, (clqL bs c N m).take 1 = [z] ∧ z.length = m := by
        cases hl : clqL bs c N m with
        | nil => rw [hl] at hx; simp at hx
        | cons z l => exact ⟨z, rfl, clqL_len (bs := bs) (c := c) (N := N) (m := m) (by omega) (by rw [hl]; exact List.mem_cons_self ..)⟩
      have HLM := hidd (show ∀ W, Calls Try.prog 45 #[.agg (ccells (N : Int) k bs).toArray, .int .i64 c, .int .i64 (m : Int), .int .i64 1] W fun e w' => ∃ a' c', e = .returned (.slice a' 1 c') ∧ LL w' (.slice a' 1 c') [z] ∧ Below W.heap.size W w' from fun W => by
        have h := HLI.out m (by omega) W
        rw [hz] at h
        exact h)
      have HM := hidd (And.intro hzm hm)
      clear hz hx hm hzm
      go_wp2_with (refine wpList_load_row rfl 28 (.tmp 2) rfl w.heap.size rfl 28 _ (0,0) _ HK.out.1 Try.underlying28 rfl HS.out ?_)
      refine (HLM.out _).mono ?_
      rintro e w1 ⟨a1, c1, rfl, hLL, hb1⟩
      obtain ⟨g, cap1, hv, a2, c2, hcell⟩ := ll_one hLL
      cases hv
      rw [HM.out.1] at hcell
      have K1 := hidd (And.intro (HK.out.1.below hb1 HK.out.1.lt) (HK.out.2.trans (hb1.mono HK.out.2.size)))
      clear hb1 hLL
      go_wp2_with fail
      go_roundw
      case rel => exact ⟨m, a2, c2, by have := HM.out.2; omega, by have := HM.out.2; omega, rfl, K1.out⟩
      case measure => have := HM.out.2; simp [sliLen]; omega
    · have hLe : L = G := by omega
      have hx := HE.out m (by omega)
      have hz : (clqL bs c N m).take 1 = [] := by rw [List.isEmpty_iff.1 hx]; rfl
      have HLM := hidd (show ∀ W, Calls Try.prog 45 #[.agg (ccells (N : Int) k bs).toArray, .int .i64 c, .int .i64 (m : Int), .int .i64 1] W fun e w' => ∃ a' c', e = .returned (.slice a' 0 c') ∧ Below W.heap.size W w' from fun W => by
        have h := HLI.out m (by omega) W
        rw [hz] at h
        exact h.mono fun e w' h => by obtain ⟨a', c', h1, h2, h3⟩ := h; exact ⟨a', c', h1, h3⟩)
      have HLE := hidd hLe
      clear hz hx hm hLe
      go_wp2_with (refine wpList_load_row rfl 28 (.tmp 2) rfl w.heap.size rfl 28 _ (0,0) _ HK.out.1 Try.underlying28 rfl HS.out ?_)
      refine (HLM.out _).mono ?_
      rintro e w1 ⟨a1, c1, rfl, hb1⟩
      have K1 := hidd (HK.out.2.trans (hb1.mono HK.out.2.size))
      clear hb1
      go_wp2_with fail
      go_ret
      exact ⟨a, cap, by rw [HLE.out]; rfl, K1.out⟩
def RelCn (N : Nat) (bs : List Nat) (C : Array Value) (w : World) (g d : Nat) (v : Value) (wr : World) : Prop :=
  Blk wr w.heap.size C 28 ∧ wr.ownsRow g 2 1 v (fillA (cnF N bs) d).length (icells (fillA (cnF N bs) d)) ∧ Below w.heap.size w wr ∧ w.heap.size < g
set_option maxRecDepth 100000 in
set_option maxHeartbeats 1000000 in
theorem spec16 (n k : Int) (bs : List Nat) (hb : Bys bs) (w : World) :
    Calls Try.prog 16 #[.agg (ccells n k bs).toArray] w (LOut w (cnList n k bs) (ceCode n k bs)) := by
  have HS := hidd (size_c26 n k hb)
  cases hi : isCol n k bs with
  | false =>
    have e1 : cnList n k bs = [] := by simp [cnList, hi]
    have e2 : ceCode n k bs = 1 := by simp [ceCode, hi]
    have HI := hidd hi
    rw [e1, e2]
    clear hi e1 e2
    go_enter Try.func16, Try.ntmps16
    go_wp2_with (refine wpList_load_row rfl 28 (.tmp 1) rfl w.heap.size rfl 28 _ (0,0) _ (Blk.new _ _ _ _ rfl) Try.underlying28 rfl HS.out ?_)
    refine (l01Is_any n k bs hb _).mono ?_
    rintro e w1 ⟨rfl, hb1⟩
    rw [HI.out]
    have G := hidd (((Below.refl w.heap.size w).alloc (Nat.le_refl _) (.cells (ccells n k bs).toArray 28)).trans (hb1.mono (by simp)))
    clear hb1
    go_wp2_with fail
    go_ret2
    exact lout_nil rfl G.out
  | true =>
    obtain ⟨n1, n2, k1, k2⟩ := isCol_bd hi
    have e1 : cnList n k bs = fillA (cnF n.toNat bs) k.toNat := by simp [cnList, hi]
    have e2 : ceCode n k bs = 0 := by simp [ceCode, hi]
    rw [e1, e2]
    have HI := hidd hi
    obtain ⟨N, rfl⟩ := Int.eq_ofNat_of_zero_le (show 0 ≤ n by omega)
    obtain ⟨K, rfl⟩ := Int.eq_ofNat_of_zero_le (show 0 ≤ k by omega)
    rw [Int.toNat_natCast, Int.toNat_natCast]
    have HC1 := hidd (show (ccells (N : Int) (K : Int) bs).toArray[1]? = some (.int .i64 (K : Int)) from rfl)
    obtain ⟨t0, hi2, hz0, hz1, hz3⟩ := info_parts info2
    have HIF := hidd (And.intro hi2 (And.intro hz0 (And.intro hz1 hz3)))
    have hN17 : N ≤ 17 := by omega
    clear hi e1 e2 hi2 hz0 hz1 hz3
    go_enter Try.func16, Try.ntmps16
    go_wp2_with (refine wpList_load_row rfl 28 (.tmp 1) rfl w.heap.size rfl 28 _ (0,0) _ (Blk.new _ _ _ _ rfl) Try.underlying28 rfl HS.out ?_)
    refine (l01Is_any (N : Int) (K : Int) bs hb _).mono ?_
    rintro e w1 ⟨rfl, hb1⟩
    rw [HI.out]
    have G := hidd (And.intro ((Blk.new w (ccells (N : Int) (K : Int) bs).toArray 28 _ rfl).below hb1 (by simp)) (((Below.refl w.heap.size w).alloc (Nat.le_refl _) (.cells (ccells (N : Int) (K : Int) bs).toArray 28)).trans (hb1.mono (by simp))))
    clear hb1
    go_wp2_with fail
    go_loopw [4, 5] (fun v e wr => ∃ d : Nat, d ≤ K ∧ e = .int .i64 d ∧ RelCn N bs (ccells (N : Int) (K : Int) bs).toArray w (w.heap.size + 1) d v wr) (fun _ e _ => K - (intOf e).toNat)
    case atStart =>
      have := G.out.1.lt
      refine ⟨0, by omega, rfl, G.out.1.alloc _, ⟨rfl, .inr ⟨w1.heap.size, 0, #[], by simp [fillA], by omega, ?_, ?_, ?_, rfl, rfl⟩⟩, G.out.2.alloc G.out.2.size _, Nat.lt_succ_self _⟩
      · exact Blk.new _ _ _ _ rfl
      · simp [fillA]
      · simp [maxLen]
    case round =>
      obtain ⟨d, hd2, rfl, HR⟩ := hrel
      have HK := hidd HR
      clear HR
      have c1 := HK.out.1.cell HC1.out
      by_cases hlt : d < K
      · have HAR := hidd (fun W => greatest32 N (K : Int) bs hb (d : Int) (by omega) hN17 W)
        have HSN := hidd (show fillA (cnF N bs) (d + 1) = fillA (cnF N bs) d ++ [((gsz N bs (d : Int) : Nat) : Int)] from fillA_snoc (cnF N bs) d)
        obtain ⟨v1, hv⟩ : ∃ v1, v1 = gsz N bs (d : Int) := ⟨_, rfl⟩
        rw [← hv] at HAR HSN
        clear hv
        go_wp2_with (refine wpList_load_row rfl 28 (.tmp 1) rfl w.heap.size rfl 28 _ (0,0) _ HK.out.1 Try.underlying28 rfl HS.out ?_)
        refine (HAR.out _).mono ?_
        rintro e w2 ⟨a2, cp2, rfl, hb2⟩
        have K1 := hidd (And.intro (HK.out.1.below hb2 HK.out.1.lt) (And.intro (own_below HK.out.2.1 hb2 (Nat.le_refl _)) (And.intro (HK.out.2.2.1.trans (hb2.mono HK.out.2.2.1.size)) HK.out.2.2.2)))
        clear hb2 c1
        have hown := K1.out.2.1
        have hlen := fillA_len (cnF N bs) d
        have hsz := K1.out.2.2.1.size
        have hszC := K1.out.1.lt
        have hg := K1.out.2.2.2
        go_wp2_with (at_builtin; refine wpList_append_own _ rfl _ _ 25 rfl (w.heap.size + 1) 2 t0 (.int .i64 0) 1 8 Try.underlying25 HIF.out.1 HIF.out.2.1 HIF.out.2.2.1 HIF.out.2.2.2 rfl (by decide) _ _ _ rfl (hown.alloc _) ⟨w2.heap.size, 0, none⟩ 1 1 [.int .i64 (v1 : Int)] rfl rfl ?c1 ?c2 ?c3 ?c4 ?c5 ?_)
        case c1 => exact one_new _ _ _
        case c2 => intro u hu; simp at hu; subst hu; rfl
        case c3 => unfold maxLen; omega
        case c4 => omega
        case c5 => simp; omega
        intro v' w3 hown' hgrow _
        have K3 := hidd (show RelCn N bs (ccells (N : Int) (K : Int) bs).toArray w (w.heap.size + 1) (d + 1) v' w3 from ⟨K1.out.1.below (grown_step hown hgrow (by omega)) (by omega), by rw [HSN.out, icells_app, List.length_append, fillA_len]; exact hown', K1.out.2.2.1.trans ((grown_step hown hgrow (by omega)).mono (by omega)), hg⟩)
        clear hown' hgrow hown
        go_wp2
        go_roundw
        case rel => exact ⟨d + 1, by omega, by go_num, K3.out⟩
        case measure => simp [intOf]; omega
      · have hde : d = K := by omega
        subst hde
        obtain ⟨a, cap, rfl, ho⟩ := own_list HK.out.2.1
        have K := hidd (And.intro ho (And.intro HK.out.2.2.1 HK.out.2.2.2))
        clear HK ho
        go_wp2_with fail
        go_ret2
        exact ⟨a, cap, rfl, ownL_base K.out.1 (by have := K.out.2.2; omega), K.out.2.1⟩
end Go.Proofs.Ythohkfdloinlmaa
