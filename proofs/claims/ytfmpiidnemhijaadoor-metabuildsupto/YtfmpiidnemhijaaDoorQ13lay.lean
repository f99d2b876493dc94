/- Own text: the walks of layNumbers, Info, LayInfo. -/
import Derived.Test.YtfmpiidnemhijaaDoorP13num
namespace Go.Proofs.YtfmpiidnemhijaaDoor
open Go.RowKit
set_option linter.unusedSimpArgs false
set_option linter.unusedVariables false

theorem widx (k : Nat) (hk : k < 8) (w : World) : (Instr.index 89 (.agg widA) (.int .i64 (k : Int))).run Tryd.prog w = .ok (.int .i64 (widK k : Int)) w := by
  match k, hk with
  | 0, _ => exact widx0 w
  | 1, _ => exact widx1 w
  | 2, _ => exact widx2 w
  | 3, _ => exact widx3 w
  | 4, _ => exact widx4 w
  | 5, _ => exact widx5 w
  | 6, _ => exact widx6 w
  | 7, _ => exact widx7 w
theorem fv_get (i : Sti) (k : Nat) (hk : k < 8) : (#[.int .i64 (fldI i 0), .int .i64 (fldI i 1), .int .i64 (fldI i 2), .int .i64 (fldI i 3), .int .i64 (fldI i 4), .int .i64 (fldI i 5), .int .i64 (fldI i 6), .int .i64 (fldI i 7)] : Array Value)[k]? = some (.int .i64 (fldI i k)) := by
  match k, hk with
  | 0, _ => rfl
  | 1, _ => rfl
  | 2, _ => rfl
  | 3, _ => rfl
  | 4, _ => rfl
  | 5, _ => rfl
  | 6, _ => rfl
  | 7, _ => rfl
/-- layNumbers' boxes: the argument's, the numbers', the writer's. -/
structure LX (w0 wx : World) (i : Sti) (ao : Option Addr) (B : List Nat) : Prop where
  wr : WrB wx (w0.heap.size + 2) ao B
  ar : wx.heap[w0.heap.size + 1]? = some (.cells #[.int .i64 (fldI i 0), .int .i64 (fldI i 1), .int .i64 (fldI i 2), .int .i64 (fldI i 3), .int .i64 (fldI i 4), .int .i64 (fldI i 5), .int .i64 (fldI i 6), .int .i64 (fldI i 7)] 89 (0, 0))
  hi : ∀ b, blockOf ao = some b → w0.heap.size + 2 < b
  bl : Below w0.heap.size w0 wx
theorem LX.put {w0 wx w' : World} {i : Sti} {ao ao' : Option Addr} {B B' : List Nat} (h : LX w0 wx i ao B) (hw : WrB w' (w0.heap.size + 2) ao' B') (hs : Stays (foot (w0.heap.size + 2) ao) wx w') (hm : Moved wx.heap.size ao ao') : LX w0 w' i ao' B' := by
  have hlt := h.wr.lt
  refine ⟨hw, ?_, fun b hb => ?_, h.bl.trans (foot_below hs h.bl.size (by omega) (fun b hb => by have := h.hi b hb; omega))⟩
  · rw [hs.block _ (lt_of_block h.ar) (fun q => ?_)]
    · exact h.ar
    · rcases q with q | q
      · omega
      · have := h.hi _ q; omega
  · rcases hm b hb with q | q
    · exact h.hi b q
    · omega
set_option maxRecDepth 20000 in
set_option maxHeartbeats 3200000 in
theorem layNumbers_any (i : Sti) (hf : IFit i) (w : World) (hW : WidAt w) :
    Calls Tryd.prog 23 #[stiV i] w fun e w' => ((numsOk i ∧ e = .returned (.tuple #[.string (numT i), .bool true])) ∨ (¬ numsOk i ∧ e = .returned (.tuple #[.string ⟨#[]⟩, .bool false]))) ∧ Below w.heap.size w w' := by
  have HN : Hid (numsOk i ↔ ∀ k, k < 8 → inN (fldI i k) (widK k)) := nums_all i hf
  have HT : Hid (numsOk i → textOf (pack (layK i 8)) = numT i) := fun h => by rw [layK_all i hf h]; rfl
  have KN := new_spec
  have KO : Hid (∀ k, inN (fldI i k) (widK k) → ∀ wx ao, LX w wx i ao (layK i k) → k < 8 → Calls Tryd.prog 46 #[.pointer (some ⟨w.heap.size + 2, 0, none⟩), .int .u64 (IntKind.u64.wrap (fldI i k)), .int .i64 (widK k : Int)] wx fun e w' => e = .returned (.int .i64 0) ∧ ∃ ao', LX w w' i ao' (layK i (k + 1))) := fun k hk wx ao h h8 =>
    (putk_ok i hf _ k hk wx ao _ (layK_01 i k) (by have := layK_le i k; omega) h.wr).mono fun e w' ⟨a, ao', b, c, d⟩ => ⟨a, ao', h.put b c d⟩
  have KB : Hid (∀ k, ¬ inN (fldI i k) (widK k) → ∀ wx, Calls Tryd.prog 46 #[.pointer (some ⟨w.heap.size + 2, 0, none⟩), .int .u64 (IntKind.u64.wrap (fldI i k)), .int .i64 (widK k : Int)] wx fun e w' => e = .returned (.int .i64 11) ∧ w' = wx) := fun k hk wx => putk_no i hf _ k hk wx
  have KY : Hid (∀ wx ao, LX w wx i ao (layK i 8) → Calls Tryd.prog 47 #[.pointer (some ⟨w.heap.size + 2, 0, none⟩)] wx fun e w' => e = .returned (.string (textOf (pack (layK i 8)))) ∧ w' = wx) := fun wx ao h => bytes_spec _ wx ao _ (layK_01 i 8) (by have := layK_le i 8; omega) h.wr
  have HC : Hid (∀ (wx : World) ao B k, LX w wx i ao B → k < 8 → wx.cell? ⟨w.heap.size + 1, k, none⟩ = some (.int .i64 (fldI i k))) := fun wx ao B k h hk => by rw [cell_of_row _ _ _ _ _ _ h.ar]; exact fv_get i k hk
  obtain ⟨wt, wz, hb⟩ := hW
  have hb0 := lt_of_block hb
  have HB : Hid (∀ w', Below w.heap.size w w' → w'.heap[0]? = some (.cells widA wt wz)) := fun w' h => by rw [h.block _ hb0]; exact hb
  have HA0 : Hid (((w.alloc (.cells (stiC i) 23)).alloc (.cells #[.int .i64 (fldI i 0), .int .i64 (fldI i 1), .int .i64 (fldI i 2), .int .i64 (fldI i 3), .int .i64 (fldI i 4), .int .i64 (fldI i 5), .int .i64 (fldI i 6), .int .i64 (fldI i 7)] 89)).heap[w.heap.size + 1]? = some (.cells #[.int .i64 (fldI i 0), .int .i64 (fldI i 1), .int .i64 (fldI i 2), .int .i64 (fldI i 3), .int .i64 (fldI i 4), .int .i64 (fldI i 5), .int .i64 (fldI i 6), .int .i64 (fldI i 7)] 89 (0, 0)) ∧ Below w.heap.size w ((w.alloc (.cells (stiC i) 23)).alloc (.cells #[.int .i64 (fldI i 0), .int .i64 (fldI i 1), .int .i64 (fldI i 2), .int .i64 (fldI i 3), .int .i64 (fldI i 4), .int .i64 (fldI i 5), .int .i64 (fldI i 6), .int .i64 (fldI i 7)] 89)) ∧ ((w.alloc (.cells (stiC i) 23)).alloc (.cells #[.int .i64 (fldI i 0), .int .i64 (fldI i 1), .int .i64 (fldI i 2), .int .i64 (fldI i 3), .int .i64 (fldI i 4), .int .i64 (fldI i 5), .int .i64 (fldI i 6), .int .i64 (fldI i 7)] 89)).heap.size = w.heap.size + 2) := by
    refine ⟨?_, ((Below.refl _ _).alloc (Nat.le_refl _) _).alloc (by simp) _, by simp⟩
    have hh := heap_alloc_new (w.alloc (.cells (stiC i) 23)) (.cells #[.int .i64 (fldI i 0), .int .i64 (fldI i 1), .int .i64 (fldI i 2), .int .i64 (fldI i 3), .int .i64 (fldI i 4), .int .i64 (fldI i 5), .int .i64 (fldI i 6), .int .i64 (fldI i 7)] 89)
    rw [show (w.alloc (.cells (stiC i) 23)).heap.size = w.heap.size + 1 from by simp] at hh
    exact hh
  clear hb hb0
  go_enter Tryd.func23, Tryd.ntmps23
  go_wp2_with fail
  generalize hwa : World.alloc (World.alloc w _) _ = wa
  have HA : Hid (wa.heap[w.heap.size + 1]? = some (.cells #[.int .i64 (fldI i 0), .int .i64 (fldI i 1), .int .i64 (fldI i 2), .int .i64 (fldI i 3), .int .i64 (fldI i 4), .int .i64 (fldI i 5), .int .i64 (fldI i 6), .int .i64 (fldI i 7)] 89 (0, 0)) ∧ Below w.heap.size w wa ∧ wa.heap.size = w.heap.size + 2) := by
    rw [← hwa]
    exact HA0.out
  clear hwa HA0
  refine (KN wa).mono ?_
  rintro e x0 ⟨rfl, h1, h2⟩
  have HX0 : Hid (LX w x0 i none (layK i 0)) := by
    obtain ⟨a1, a2, a3⟩ := HA.out
    rw [a3] at h1
    have hB : Below wa.heap.size wa x0 := by rw [h2]; exact (Below.refl _ _).alloc (Nat.le_refl _) _
    exact ⟨h1, by rw [hB.block _ (lt_of_block a1)]; exact a1, fun b hb => by simp [blockOf] at hb, a2.trans (hB.mono a2.size)⟩
  have hsz : wa.heap.size = w.heap.size + 2 := HA.out.2.2
  rw [hsz]
  have HBX : Hid (x0.heap[0]? = some (.cells widA wt wz)) := HB.out x0 HX0.out.bl
  clear h1 h2 KN HA hsz HB
  go_wp2_with (refine wpList_load_row rfl 89 _ rfl 0 rfl wt widA wz _ HBX.out Tryd.underlying89 rfl info_arr8 ?_)
  clear HBX
  go_loopw [29] (fun t wr => ∃ (k : Nat) (ao : Option Addr), k ≤ 8 ∧ t = .int .i64 (k : Int) ∧ LX w wr i ao (layK i k) ∧ ∀ j, j < k → inN (fldI i j) (widK j)) (fun t _ => 8 - (intOf t).toNat)
  case atStart => exact ⟨0, none, by decide, rfl, HX0.out, fun j hj => absurd hj (Nat.not_lt_zero _)⟩
  case round =>
    obtain ⟨k, ao, hk, rfl, hx, hall⟩ := hrel
    have HX : Hid (LX w wr i ao (layK i k)) := hx
    have HL : Hid (∀ j, j < k → inN (fldI i j) (widK j)) := hall
    clear hx hall HX0
    by_cases hlt : k < 8
    · have hix := widx k hlt
      have hc := HC.out wr ao _ k HX.out hlt
      have HKK : Hid (∀ X : Int, X = fldI i k → _) := fun X e => e
      by_cases hin : inN (fldI i k) (widK k)
      · have HKO := KO.out k hin wr ao HX.out hlt
        have HL2 : Hid (∀ j, j < k + 1 → inN (fldI i j) (widK j)) := fun j hj => by
          by_cases e : j = k
          · rw [e]; exact hin
          · exact HL.out j (by omega)
        have hwk := widK_le k
        generalize fldI i k = X at *
        generalize widK k = M at *
        clear hin KO KB KY HL HX HKK
        go_wp2_with fail
        refine HKO.mono ?_
        rintro e w2 ⟨rfl, ao2, h2⟩
        have H2 : Hid (LX w w2 i ao2 (layK i (k + 1))) := h2
        clear h2 HKO
        go_wp2_with fail
        go_roundw
        case rel => exact ⟨k + 1, ao2, by omega, by go_num, H2.out, HL2.out⟩
        case measure => simp [intOf]; omega
      · have HKB := KB.out k hin wr
        have HNO : Hid (¬ numsOk i) := fun h => hin (HN.out.1 h k hlt)
        have hwk := widK_le k
        generalize fldI i k = X at *
        generalize widK k = M at *
        clear hin KO KB KY HL HKK
        go_wp2_with fail
        refine HKB.mono ?_
        rintro e w2 ⟨rfl, rfl⟩
        clear HKB
        go_wp2_with fail
        go_ret2
        exact ⟨.inr ⟨HNO.out, rfl⟩, HX.out.bl⟩
    · have hk8 : k = 8 := by omega
      subst hk8
      have HYES : Hid (numsOk i) := HN.out.2 HL.out
      have HKY := KY.out wr ao HX.out
      rw [HT.out HYES.out] at HKY
      clear KO KB KY HL
      go_wp2_with fail
      refine HKY.mono ?_
      rintro e w2 ⟨rfl, rfl⟩
      clear HKY
      go_wp2_with fail
      go_ret2
      exact ⟨.inl ⟨HYES.out, rfl⟩, HX.out.bl⟩
set_option maxRecDepth 20000 in
set_option maxHeartbeats 1600000 in
theorem info_any (s : ByteArray) (hs : s.size ≤ 140737488351232) (w : World) (hW : WidAt w) :
    Calls Tryd.prog 8 #[.string s] w fun e w' => e = .returned (.tuple #[stiV (infR s), .int .i64 (infE s)]) ∧ Below w.heap.size w w' := by
  have hB0 : Below w.heap.size w (w.alloc (.cells (stiC Sti0) 23)) := (Below.refl _ _).alloc (Nat.le_refl _) _
  have HZ : Hid ((w.alloc (.cells (stiC Sti0) 23)).heap[w.heap.size]? = some (.cells (stiC Sti0) 23 (0, 0)) ∧ Below w.heap.size w (w.alloc (.cells (stiC Sti0) 23))) := ⟨heap_alloc_new _ _, hB0⟩
  by_cases h34 : s.size = 34
  · have ki := infoIn_any s h34 _ (hW.below hB0)
    have kf := fault_any (infS s)
    have HE0 : Hid (infE s = fltE (infS s)) := by unfold infE; exact if_pos h34
    have HR0 : Hid (infR s = if infE s = 0 then infS s else Sti0) := rfl
    have hr := fltE_ne (infS s)
    have hb : ((s.size : Int) != 34) = false := by rw [bne_eq_false_iff_eq]; omega
    generalize hI : infS s = I at *
    clear hI h34 hW hB0
    go_enter Tryd.func8, Tryd.ntmps8
    go_wp2_with fail
    refine ki.mono ?_
    rintro e w1 ⟨rfl, hb1⟩
    have HZ1 : Hid (w1.heap[w.heap.size]? = some (.cells (stiC Sti0) 23 (0, 0)) ∧ Below w.heap.size w w1) := ⟨by rw [hb1.block _ (lt_of_block HZ.out.1)]; exact HZ.out.1, HZ.out.2.trans (hb1.mono HZ.out.2.size)⟩
    clear hb1 ki HZ
    go_wp2_with fail
    refine (kf _).mono ?_
    rintro e w2 ⟨rfl, hb2⟩
    have HZ2 : Hid (w2.heap[w.heap.size]? = some (.cells (stiC Sti0) 23 (0, 0)) ∧ Below w.heap.size w w2) := by
      have hx : Below w1.heap.size w1 w2 := ((Below.refl _ _).alloc (Nat.le_refl _) _).trans (hb2.mono (by simp))
      exact ⟨by rw [hx.block _ (lt_of_block HZ1.out.1)]; exact HZ1.out.1, HZ1.out.2.trans (hx.mono HZ1.out.2.size)⟩
    have HI2 : Hid (w2.heap[w1.heap.size]? = some (.cells (stiC I) 23 (0, 0))) := by
      show _ = _
      rw [hb2.block _ (by simp)]
      exact heap_alloc_new _ _
    clear hb2 kf HZ1
    have a0 : w2.cell? ⟨w.heap.size, 0, none⟩ = some (.int .i64 0) := by rw [cell_of_row _ _ _ _ _ _ HZ2.out.1]; rfl
    have f0 := fz_of HZ2.out.1 0
    have a1 : w2.cell? ⟨w.heap.size, 1, none⟩ = some (.int .i64 0) := by rw [cell_of_row _ _ _ _ _ _ HZ2.out.1]; rfl
    have f1 := fz_of HZ2.out.1 1
    have a2 : w2.cell? ⟨w.heap.size, 2, none⟩ = some (.int .i64 0) := by rw [cell_of_row _ _ _ _ _ _ HZ2.out.1]; rfl
    have f2 := fz_of HZ2.out.1 2
    have a3 : w2.cell? ⟨w.heap.size, 3, none⟩ = some (.int .i64 0) := by rw [cell_of_row _ _ _ _ _ _ HZ2.out.1]; rfl
    have f3 := fz_of HZ2.out.1 3
    have a4 : w2.cell? ⟨w.heap.size, 4, none⟩ = some (.int .i64 0) := by rw [cell_of_row _ _ _ _ _ _ HZ2.out.1]; rfl
    have f4 := fz_of HZ2.out.1 4
    have a5 : w2.cell? ⟨w.heap.size, 5, none⟩ = some (.int .i64 0) := by rw [cell_of_row _ _ _ _ _ _ HZ2.out.1]; rfl
    have f5 := fz_of HZ2.out.1 5
    have a6 : w2.cell? ⟨w.heap.size, 6, none⟩ = some (.int .i64 0) := by rw [cell_of_row _ _ _ _ _ _ HZ2.out.1]; rfl
    have f6 := fz_of HZ2.out.1 6
    have a7 : w2.cell? ⟨w.heap.size, 7, none⟩ = some (.int .i64 0) := by rw [cell_of_row _ _ _ _ _ _ HZ2.out.1]; rfl
    have f7 := fz_of HZ2.out.1 7
    have a8 : w2.cell? ⟨w.heap.size, 8, none⟩ = some (.string ⟨#[]⟩) := by rw [cell_of_row _ _ _ _ _ _ HZ2.out.1]; rfl
    have f8 := fz_of HZ2.out.1 8
    by_cases h0 : fltE I = 0
    · have hq : (fltE I != 0) = false := by rw [bne_eq_false_iff_eq]; exact h0
      have HE : Hid (infE s = 0) := HE0.out.trans h0
      have HR : Hid (infR s = I) := HR0.out.trans (if_pos HE.out)
      clear HE0 HR0
      have i0 : w2.cell? ⟨w1.heap.size, 0, none⟩ = some (.int .i64 I.mn) := by rw [cell_of_row _ _ _ _ _ _ HI2.out]; rfl
      have i1 : w2.cell? ⟨w1.heap.size, 1, none⟩ = some (.int .i64 I.mx) := by rw [cell_of_row _ _ _ _ _ _ HI2.out]; rfl
      have i2 : w2.cell? ⟨w1.heap.size, 2, none⟩ = some (.int .i64 I.mf) := by rw [cell_of_row _ _ _ _ _ _ HI2.out]; rfl
      have i3 : w2.cell? ⟨w1.heap.size, 3, none⟩ = some (.int .i64 I.xf) := by rw [cell_of_row _ _ _ _ _ _ HI2.out]; rfl
      have i4 : w2.cell? ⟨w1.heap.size, 4, none⟩ = some (.int .i64 I.rt) := by rw [cell_of_row _ _ _ _ _ _ HI2.out]; rfl
      have i5 : w2.cell? ⟨w1.heap.size, 5, none⟩ = some (.int .i64 I.ch) := by rw [cell_of_row _ _ _ _ _ _ HI2.out]; rfl
      have i6 : w2.cell? ⟨w1.heap.size, 6, none⟩ = some (.int .i64 I.wd) := by rw [cell_of_row _ _ _ _ _ _ HI2.out]; rfl
      have i7 : w2.cell? ⟨w1.heap.size, 7, none⟩ = some (.int .i64 I.sm) := by rw [cell_of_row _ _ _ _ _ _ HI2.out]; rfl
      have i8 : w2.cell? ⟨w1.heap.size, 8, none⟩ = some (.string I.dg) := by rw [cell_of_row _ _ _ _ _ _ HI2.out]; rfl
      generalize fltE I = E at *
      clear h0
      go_wp2_with fail
      clear hq a0 f0 i0 a1 f1 i1 a2 f2 i2 a3 f3 i3 a4 f4 i4 a5 f5 i5 a6 f6 i6 a7 f7 i7 a8 f8 i8
      generalize hwf : World.setCell _ _ _ = wf
      have HF : Hid (wf.heap[w.heap.size]? = some (.cells (stiC I) 23 (0, 0)) ∧ Below w.heap.size w wf) := by
        rw [← hwf]
        exact ⟨set9 _ _ _ _ _ _ _ _ _ _ _ _ _ rfl HZ2.out.1, set9b _ _ _ _ _ _ _ _ _ _ _ _ (Nat.le_refl _) HZ2.out.2⟩
      refine bodyPost_ret (v := .tuple #[stiV (infR s), .int .i64 (infE s)]) ?_ rfl ⟨rfl, HF.out.2⟩
      rw [results_two rfl]
      have hld := run_loadVar_row (P := Tryd.prog) (wf) w.heap.size 23 23 _ (0, 0) _ HF.out.1 Tryd.underlying23 rfl info_sti
      rw [HE.out, HR.out]
      simp [asAddr, Result.andThen, hld]
    · have hq : (fltE I != 0) = true := by rw [bne_iff_ne]; exact h0
      have HE : Hid (infE s = fltE I) := HE0.out
      have HR : Hid (infR s = Sti0) := HR0.out.trans (if_neg (by rw [HE.out]; exact h0))
      clear HE0 HR0
      generalize fltE I = E at *
      clear h0
      go_wp2_with fail
      clear hq a0 f0 a1 f1 a2 f2 a3 f3 a4 f4 a5 f5 a6 f6 a7 f7 a8 f8
      generalize hwf : World.setCell _ _ _ = wf
      have HF : Hid (wf.heap[w.heap.size]? = some (.cells (stiC Sti0) 23 (0, 0)) ∧ Below w.heap.size w wf) := by
        rw [← hwf]
        exact ⟨set9 _ _ _ _ _ _ _ _ _ _ _ _ _ rfl HZ2.out.1, set9b _ _ _ _ _ _ _ _ _ _ _ _ (Nat.le_refl _) HZ2.out.2⟩
      refine bodyPost_ret (v := .tuple #[stiV (infR s), .int .i64 (infE s)]) ?_ rfl ⟨rfl, HF.out.2⟩
      rw [results_two rfl]
      have hld := run_loadVar_row (P := Tryd.prog) (wf) w.heap.size 23 23 _ (0, 0) _ HF.out.1 Tryd.underlying23 rfl info_sti
      rw [HE.out, HR.out]
      simp [asAddr, Result.andThen, hld]
  · have HE : Hid (infE s = 2) := by unfold infE; exact if_neg h34
    have HR : Hid (infR s = Sti0) := by unfold infR; rw [HE.out]; rfl
    have hb : ((s.size : Int) != 34) = true := by rw [bne_iff_ne]; omega
    clear h34 hW hB0
    go_enter Tryd.func8, Tryd.ntmps8
    go_wp2_with fail
    refine bodyPost_ret (v := .tuple #[stiV (infR s), .int .i64 (infE s)]) ?_ rfl ⟨rfl, HZ.out.2⟩
    rw [results_two rfl]
    have hld := run_loadVar_row (P := Tryd.prog) (w.alloc (.cells (stiC Sti0) 23)) w.heap.size 23 23 _ (0, 0) _ HZ.out.1 Tryd.underlying23 rfl info_sti
    rw [HE.out, HR.out]
    simp [asAddr, Result.andThen, hld]

end Go.Proofs.YtfmpiidnemhijaaDoor
