/- Own text: the walk of the document's LayInfo. -/
import Derived.Test.YtfmpiidnemhijaaDoorR13inf
import Derived.Test.YtfmpiidnemhijaaDoorQ13chk
import Derived.Test.YtfmpiidnemhijaaDoorRefrice
namespace Go.Proofs.YtfmpiidnemhijaaDoor
open Go.RowKit
set_option linter.unusedSimpArgs false
set_option linter.unusedVariables false

theorem XwB.new (w : World) : XwB (w.alloc (.cells #[.slice none 0 0] 65)) w.heap.size none [] := ⟨0, heap_alloc_new _ _, World.ownsRow_nil _ _ _ _, by simp [blockOf]⟩
theorem XwB.low {w w' : World} {x : Nat} {ao : Option Addr} {B : List Nat} (h : XwB w x ao B) (hb : Below w.heap.size w w') : XwB w' x ao B :=
  h.stays (S := fun _ => False) ⟨hb.1, hb.2, hb.3, hb.4, fun k hk _ => hb.5 k hk⟩ (fun h => h) (fun _ _ h => h)
/-- The document's LayInfo's boxes: the argument's, the writer's, the numbers' row, the widths'. -/
structure LY (w0 wx : World) (i : Sti) (ao : Option Addr) (B : List Nat) : Prop where
  inf : wx.heap[w0.heap.size]? = some (.cells (stiC i) 23 (0, 0))
  xw : XwB wx (w0.heap.size + 1) ao B
  fv : wx.heap[w0.heap.size + 2]? = some (.cells #[.int .i64 (fldI i 0), .int .i64 (fldI i 1), .int .i64 (fldI i 2), .int .i64 (fldI i 3), .int .i64 (fldI i 4), .int .i64 (fldI i 5), .int .i64 (fldI i 6), .int .i64 (fldI i 7)] 3 (0, 0))
  wd : wx.heap[w0.heap.size + 3]? = some (.cells widA 3 (0, 0))
  hi : ∀ b, blockOf ao = some b → w0.heap.size + 3 < b
  bl : Below w0.heap.size w0 wx
section
variable {w0 wx w' : World} {i : Sti} {ao ao' : Option Addr} {B B' : List Nat}
theorem LY.low (h : LY w0 wx i ao B) (hb : Below wx.heap.size wx w') : LY w0 w' i ao B :=
  ⟨by rw [hb.block _ (lt_of_block h.inf)]; exact h.inf, h.xw.low hb, by rw [hb.block _ (lt_of_block h.fv)]; exact h.fv, by rw [hb.block _ (lt_of_block h.wd)]; exact h.wd, h.hi, h.bl.trans (hb.mono h.bl.size)⟩
theorem LY.put (h : LY w0 wx i ao B) (hw : XwB w' (w0.heap.size + 1) ao' B') (hs : Stays (foot (w0.heap.size + 1) ao) wx w') (hm : Moved wx.heap.size ao ao') : LY w0 w' i ao' B' := by
  have hlt := lt_of_block h.wd
  have hn : ∀ k, k ≤ w0.heap.size + 3 → k ≠ w0.heap.size + 1 → ¬ foot (w0.heap.size + 1) ao k := fun k hk hne q => by
    rcases q with q | q
    · exact hne q
    · have := h.hi _ q; omega
  refine ⟨?_, hw, ?_, ?_, fun b hb => ?_, h.bl.trans (foot_below hs h.bl.size (by omega) (fun b hb => by have := h.hi b hb; omega))⟩
  · rw [hs.block _ (lt_of_block h.inf) (hn _ (by omega) (by omega))]; exact h.inf
  · rw [hs.block _ (lt_of_block h.fv) (hn _ (by omega) (by omega))]; exact h.fv
  · rw [hs.block _ (lt_of_block h.wd) (hn _ (by omega) (by omega))]; exact h.wd
  · rcases hm b hb with q | q
    · exact h.hi b q
    · omega
end
theorem LY.new (w : World) (i : Sti) : LY w ((((w.alloc (.cells (stiC i) 23)).alloc (.cells #[.slice none 0 0] 65)).alloc (.cells #[.int .i64 (fldI i 0), .int .i64 (fldI i 1), .int .i64 (fldI i 2), .int .i64 (fldI i 3), .int .i64 (fldI i 4), .int .i64 (fldI i 5), .int .i64 (fldI i 6), .int .i64 (fldI i 7)] 3)).alloc (.cells widA 3)) i none [] := by
  have h0 := heap_alloc_new w (.cells (stiC i) 23)
  obtain ⟨w1, hw1⟩ : ∃ x, x = w.alloc (.cells (stiC i) 23) := ⟨_, rfl⟩
  have s1 : w1.heap.size = w.heap.size + 1 := by rw [hw1]; simp
  have b1 : Below w.heap.size w w1 := by rw [hw1]; exact (Below.refl _ _).alloc (Nat.le_refl _) _
  rw [← hw1] at h0 ⊢
  have h1 := XwB.new w1
  obtain ⟨w2, hw2⟩ : ∃ x, x = w1.alloc (.cells #[.slice none 0 0] 65) := ⟨_, rfl⟩
  have s2 : w2.heap.size = w.heap.size + 2 := by rw [hw2]; simp [s1]
  have b2 : Below w1.heap.size w1 w2 := by rw [hw2]; exact (Below.refl _ _).alloc (Nat.le_refl _) _
  rw [← hw2] at h1 ⊢
  have h2 := heap_alloc_new w2 (.cells #[.int .i64 (fldI i 0), .int .i64 (fldI i 1), .int .i64 (fldI i 2), .int .i64 (fldI i 3), .int .i64 (fldI i 4), .int .i64 (fldI i 5), .int .i64 (fldI i 6), .int .i64 (fldI i 7)] 3)
  obtain ⟨w3, hw3⟩ : ∃ x, x = w2.alloc (.cells #[.int .i64 (fldI i 0), .int .i64 (fldI i 1), .int .i64 (fldI i 2), .int .i64 (fldI i 3), .int .i64 (fldI i 4), .int .i64 (fldI i 5), .int .i64 (fldI i 6), .int .i64 (fldI i 7)] 3) := ⟨_, rfl⟩
  have s3 : w3.heap.size = w.heap.size + 3 := by rw [hw3]; simp [s2]
  have b3 : Below w2.heap.size w2 w3 := by rw [hw3]; exact (Below.refl _ _).alloc (Nat.le_refl _) _
  rw [← hw3] at h2 ⊢
  have h3 := heap_alloc_new w3 (.cells widA 3)
  have b4 : Below w3.heap.size w3 (w3.alloc (.cells widA 3)) := (Below.refl _ _).alloc (Nat.le_refl _) _
  rw [s1] at h1
  rw [s2] at h2
  rw [s3] at h3
  have b34 := b3.trans (b4.mono b3.size)
  have b234 := b2.trans (b34.mono b2.size)
  exact ⟨by rw [b234.block _ (by omega)]; exact h0, h1.low b34, by rw [b4.block _ (by omega)]; exact h2, h3, fun b hb => by simp [blockOf] at hb, b1.trans (b234.mono b1.size)⟩
theorem fv_get3 (i : Sti) (k : Nat) (hk : k < 8) : (#[.int .i64 (fldI i 0), .int .i64 (fldI i 1), .int .i64 (fldI i 2), .int .i64 (fldI i 3), .int .i64 (fldI i 4), .int .i64 (fldI i 5), .int .i64 (fldI i 6), .int .i64 (fldI i 7)] : Array Value)[k]? = some (.int .i64 (fldI i k)) := by
  match k, hk with
  | 0, _ => rfl
  | 1, _ => rfl
  | 2, _ => rfl
  | 3, _ => rfl
  | 4, _ => rfl
  | 5, _ => rfl
  | 6, _ => rfl
  | 7, _ => rfl
set_option maxRecDepth 20000 in
set_option maxHeartbeats 12800000 in
theorem xinfo_not (s : ByteArray) (hs : s.size ≤ 140737488351250) (h34 : ¬ s.size = 34) (w : World) :
    Calls Tryd.prog 9 #[.string s] w fun e w' => e = .returned (.tuple #[stiV (infR s), .int .i64 (infE s)]) ∧ Below w.heap.size w w' := by
  have hB0 : Below w.heap.size w (w.alloc (.cells (stiC Sti0) 23)) := (Below.refl _ _).alloc (Nat.le_refl _) _
  have HZ : Hid ((w.alloc (.cells (stiC Sti0) 23)).heap[w.heap.size]? = some (.cells (stiC Sti0) 23 (0, 0)) ∧ Below w.heap.size w (w.alloc (.cells (stiC Sti0) 23))) := ⟨heap_alloc_new _ _, hB0⟩
  clear hB0
  have HE : Hid (infE s = 2) := by unfold infE; exact if_neg h34
  have HR : Hid (infR s = Sti0) := by unfold infR; rw [HE.out]; rfl
  have hb : ((s.size : Int) != 34) = true := by rw [bne_iff_ne]; omega
  clear h34
  go_enter Tryd.func9, Tryd.ntmps9
  go_wp2_with fail
  refine bodyPost_ret (v := .tuple #[stiV (infR s), .int .i64 (infE s)]) ?_ rfl ⟨rfl, HZ.out.2⟩
  rw [results_two rfl]
  have hld := run_loadVar_row (P := Tryd.prog) (w.alloc (.cells (stiC Sti0) 23)) w.heap.size 23 23 _ (0, 0) _ HZ.out.1 Tryd.underlying23 rfl info_sti
  rw [HE.out, HR.out]
  simp [asAddr, Result.andThen, hld]
set_option maxRecDepth 20000 in
set_option maxHeartbeats 12800000 in
theorem xlayInfo_any (i : Sti) (hf : IFit i) (w : World) :
    Calls Tryd.prog 11 #[stiV i] w fun e w' => LayE i e ∧ Below w.heap.size w w' := by
  have HN : Hid (numsOk i ↔ ∀ k, k < 8 → inN (fldI i k) (widK k)) := nums_all i hf
  have HT : Hid (numsOk i → textOf (pack (layK i 8)) = numT i) := fun h => by rw [layK_all i hf h]; rfl
  have HE : Hid (numsOk i → infE (numT i ++ i.dg) = if i.dg.size = 16 then fltE i else 2) := fun h => lay_infE i h
  have KO : Hid (∀ k, inN (fldI i k) (widK k) → ∀ wx ao, LY w wx i ao (layK i k) → k < 8 → Calls Tryd.prog 24 #[.pointer (some ⟨w.heap.size + 1, 0, none⟩), .int .u64 (IntKind.u64.wrap (fldI i k)), .int .i64 (widK k : Int)] wx fun e w' => e = .returned (.int .i64 0) ∧ ∃ ao', LY w w' i ao' (layK i (k + 1))) := fun k hk wx ao h h8 =>
    (xputk_ok i hf _ k hk wx ao _ (by have := layK_le i k; omega) h.xw).mono fun e w' ⟨a, ao', b, c, d⟩ => ⟨a, ao', h.put b c d⟩
  have KB : Hid (∀ k, ¬ inN (fldI i k) (widK k) → ∀ wx, Calls Tryd.prog 24 #[.pointer (some ⟨w.heap.size + 1, 0, none⟩), .int .u64 (IntKind.u64.wrap (fldI i k)), .int .i64 (widK k : Int)] wx fun e w' => e = .returned (.int .i64 11) ∧ w' = wx) := fun k hk wx => xputk_no i hf _ k hk wx
  have KY : Hid (∀ wx ao, LY w wx i ao (layK i 8) → Calls Tryd.prog 25 #[.pointer (some ⟨w.heap.size + 1, 0, none⟩)] wx fun e w' => e = .returned (.string (textOf (pack (layK i 8)))) ∧ Below wx.heap.size wx w') := fun wx ao h => xbytes_spec _ wx ao _ (layK_01 i 8) (by have := layK_le i 8; omega) h.xw
  have HCC : Hid (∀ k, k < 8 → ∀ wx : World, Hid (wx.heap[w.heap.size + 2]? = some (.cells #[.int .i64 (fldI i 0), .int .i64 (fldI i 1), .int .i64 (fldI i 2), .int .i64 (fldI i 3), .int .i64 (fldI i 4), .int .i64 (fldI i 5), .int .i64 (fldI i 6), .int .i64 (fldI i 7)] 3 (0, 0)) ∧ wx.heap[w.heap.size + 3]? = some (.cells widA 3 (0, 0))) → wx.cell? ⟨w.heap.size + 2, k, none⟩ = some (.int .i64 (fldI i k)) ∧ wx.cell? ⟨w.heap.size + 3, k, none⟩ = some (.int .i64 (widK k : Int))) := fun k hk wx h => ⟨by rw [cell_of_row _ _ _ _ _ _ h.out.1]; exact fv_get3 i k hk, by rw [cell_of_row _ _ _ _ _ _ h.out.2]; exact wid_get k hk⟩
  have HC8 : Hid (∀ wx : World, Hid (wx.heap[w.heap.size]? = some (.cells (stiC i) 23 (0, 0)) ∧ Below w.heap.size w wx) → wx.cell? ⟨w.heap.size, 8, none⟩ = some (.string i.dg)) := fun wx h => (sti_cells h.out.1).2.2.2.2.2.2.2.2
  have KX : Hid (∀ wx, (numT i).size = 18 → Calls Tryd.prog 9 #[.string (numT i ++ i.dg)] wx fun e w' => e = .returned (.tuple #[stiV (infR (numT i ++ i.dg)), .int .i64 (infE (numT i ++ i.dg))]) ∧ Below wx.heap.size wx w') := fun wx h => by
    by_cases q : (numT i ++ i.dg).size = 34
    · exact xinfo_any _ (by omega) wx
    · exact xinfo_not _ (by rw [ByteArray.size_append]; have := hf.dg; omega) q wx
  have HA0 : Hid (LY w ((((w.alloc (.cells (stiC i) 23)).alloc (.cells #[.slice none 0 0] 65)).alloc (.cells #[.int .i64 (fldI i 0), .int .i64 (fldI i 1), .int .i64 (fldI i 2), .int .i64 (fldI i 3), .int .i64 (fldI i 4), .int .i64 (fldI i 5), .int .i64 (fldI i 6), .int .i64 (fldI i 7)] 3)).alloc (.cells widA 3)) i none (layK i 0)) := LY.new w i
  have hdg := hf.dg
  have HFT : Hid (∀ k, I64 (fldI i k)) := fld_fit i hf
  have hnt := numT_size i
  clear hf
  go_enter Tryd.func11, Tryd.ntmps11
  go_wp2_with fail
  generalize hwa : World.alloc (World.alloc (World.alloc (World.alloc w _) _) _) _ = wa
  have HA : Hid (LY w wa i none (layK i 0)) := by
    rw [← hwa]
    exact HA0.out
  clear hwa HA0
  go_loopw [7] (fun t wr => ∃ (k : Nat) (ao : Option Addr), k ≤ 8 ∧ t = .int .i64 (k : Int) ∧ LY w wr i ao (layK i k) ∧ ∀ j, j < k → inN (fldI i j) (widK j)) (fun t _ => 8 - (intOf t).toNat)
  case atStart => exact ⟨0, none, by decide, rfl, HA.out, fun j hj => absurd hj (Nat.not_lt_zero _)⟩
  case round =>
    obtain ⟨k, ao, hk, rfl, hx, hall⟩ := hrel
    have HX : Hid (LY w wr i ao (layK i k)) := hx
    have HL : Hid (∀ j, j < k → inN (fldI i j) (widK j)) := hall
    clear hx hall HA
    by_cases hlt : k < 8
    · have HCK : Hid (∀ wx : World, Hid (wx.heap[w.heap.size + 2]? = some (.cells #[.int .i64 (fldI i 0), .int .i64 (fldI i 1), .int .i64 (fldI i 2), .int .i64 (fldI i 3), .int .i64 (fldI i 4), .int .i64 (fldI i 5), .int .i64 (fldI i 6), .int .i64 (fldI i 7)] 3 (0, 0)) ∧ wx.heap[w.heap.size + 3]? = some (.cells widA 3 (0, 0))) → wx.cell? ⟨w.heap.size + 2, k, none⟩ = some (.int .i64 (fldI i k)) ∧ wx.cell? ⟨w.heap.size + 3, k, none⟩ = some (.int .i64 (widK k : Int))) := HCC.out k hlt
      have HXD : Hid (LY w wr.drew i ao (layK i k)) := HX.out.low ⟨rfl, rfl, rfl, Nat.le_refl _, fun _ _ => rfl⟩
      have HRD : Hid (wr.drew.heap[w.heap.size + 2]? = some (.cells #[.int .i64 (fldI i 0), .int .i64 (fldI i 1), .int .i64 (fldI i 2), .int .i64 (fldI i 3), .int .i64 (fldI i 4), .int .i64 (fldI i 5), .int .i64 (fldI i 6), .int .i64 (fldI i 7)] 3 (0, 0)) ∧ wr.drew.heap[w.heap.size + 3]? = some (.cells widA 3 (0, 0))) := ⟨HXD.out.fv, HXD.out.wd⟩
      have hfit := HFT.out k
      have hwk := widK_le k
      by_cases hin : inN (fldI i k) (widK k)
      · have HKO := KO.out k hin wr.drew ao HXD.out hlt
        have HL2 : Hid (∀ j, j < k + 1 → inN (fldI i j) (widK j)) := fun j hj => by
          by_cases e : j = k
          · rw [e]; exact hin
          · exact HL.out j (by omega)
        have h0 : 0 ≤ fldI i k := hin.1
        generalize fldI i k = X at *
        generalize widK k = M at *
        clear hin KO KB KY HL HX HCC HC8 KX HE HT HN HXD HFT hfit
        go_upto_region 7 with fail
        refine wp_region_held_drew (S := fun wx => Hid (wx.heap[w.heap.size + 2]? = some (.cells #[.int .i64 (fldI i 0), .int .i64 (fldI i 1), .int .i64 (fldI i 2), .int .i64 (fldI i 3), .int .i64 (fldI i 4), .int .i64 (fldI i 5), .int .i64 (fldI i 6), .int .i64 (fldI i 7)] 3 (0, 0)) ∧ wx.heap[w.heap.size + 3]? = some (.cells widA 3 (0, 0)))) (by kernel_rfl) HRD (fun hS => ?_)
        refine wpAnyH_take (i := 0) (v := .slice (some ⟨w.heap.size + 2, 0, none⟩) 8 8) rfl (by kernel_rfl) (by kernel_rfl) (by kernel_rfl) (fun _ _ _ h => h) (Or.inl ⟨by rfl, fun w hSw => by go_simp⟩) hS ?_
        simp only [Act.put, List.getElem_toArray, List.getElem_cons_succ, List.getElem_cons_zero, List.setIfInBounds_toArray, List.set_cons_zero, List.set_cons_succ]
        refine wpAnyH_take (i := 1) (v := .int .i64 (k : Int)) rfl (by kernel_rfl) (by kernel_rfl) (by kernel_rfl) (fun _ _ _ h => h) (Or.inl ⟨by rfl, fun w hSw => by go_simp⟩) hS ?_
        simp only [Act.put, List.getElem_toArray, List.getElem_cons_succ, List.getElem_cons_zero, List.setIfInBounds_toArray, List.set_cons_zero, List.set_cons_succ]
        refine wpAnyH_take (i := 2) (v := .pointer (some ⟨w.heap.size + 2, k, none⟩)) rfl (by kernel_rfl) (by kernel_rfl) (by kernel_rfl) (fun _ _ _ h => h) (Or.inl ⟨by rfl, fun w hSw => by go_simp⟩) hS ?_
        simp only [Act.put, List.getElem_toArray, List.getElem_cons_succ, List.getElem_cons_zero, List.setIfInBounds_toArray, List.set_cons_zero, List.set_cons_succ]
        refine wpAnyH_take (i := 3) (v := .int .i64 X) rfl (by kernel_rfl) (by kernel_rfl) (by kernel_rfl) (fun _ _ _ h => h) (Or.inl ⟨by rfl, fun w hSw => by obtain ⟨c0, c1⟩ := HCK.out _ hSw; go_simp⟩) hS ?_
        simp only [Act.put, List.getElem_toArray, List.getElem_cons_succ, List.getElem_cons_zero, List.setIfInBounds_toArray, List.set_cons_zero, List.set_cons_succ]
        refine wpAnyH_take (i := 4) (v := .bool false) rfl (by kernel_rfl) (by kernel_rfl) (by kernel_rfl) (fun _ _ _ h => h) (Or.inl ⟨by rfl, fun w hSw => by go_simp⟩) hS ?_
        simp only [Act.put, List.getElem_toArray, List.getElem_cons_succ, List.getElem_cons_zero, List.setIfInBounds_toArray, List.set_cons_zero, List.set_cons_succ]
        refine wpAnyH_take (i := 5) (v := .bool false) rfl (by kernel_rfl) (by kernel_rfl) (by kernel_rfl) (fun _ _ _ h => h) (Or.inl ⟨by rfl, fun w hSw => by go_simp⟩) hS ?_
        simp only [Act.put, List.getElem_toArray, List.getElem_cons_succ, List.getElem_cons_zero, List.setIfInBounds_toArray, List.set_cons_zero, List.set_cons_succ]
        refine wpAnyH_take (i := 6) (v := .pointer (some ⟨w.heap.size + 1, 0, none⟩)) rfl (by kernel_rfl) (by kernel_rfl) (by kernel_rfl) (fun _ _ _ h => h) (Or.inl ⟨by rfl, fun w hSw => by go_simp⟩) hS ?_
        simp only [Act.put, List.getElem_toArray, List.getElem_cons_succ, List.getElem_cons_zero, List.setIfInBounds_toArray, List.set_cons_zero, List.set_cons_succ]
        refine wpAnyH_take (i := 7) (v := .slice (some ⟨w.heap.size + 2, 0, none⟩) 8 8) rfl (by kernel_rfl) (by kernel_rfl) (by kernel_rfl) (fun _ _ _ h => h) (Or.inl ⟨by rfl, fun w hSw => by go_simp⟩) hS ?_
        simp only [Act.put, List.getElem_toArray, List.getElem_cons_succ, List.getElem_cons_zero, List.setIfInBounds_toArray, List.set_cons_zero, List.set_cons_succ]
        refine wpAnyH_take (i := 8) (v := .int .i64 (k : Int)) rfl (by kernel_rfl) (by kernel_rfl) (by kernel_rfl) (fun _ _ _ h => h) (Or.inl ⟨by rfl, fun w hSw => by go_simp⟩) hS ?_
        simp only [Act.put, List.getElem_toArray, List.getElem_cons_succ, List.getElem_cons_zero, List.setIfInBounds_toArray, List.set_cons_zero, List.set_cons_succ]
        refine wpAnyH_take (i := 9) (v := .pointer (some ⟨w.heap.size + 2, k, none⟩)) rfl (by kernel_rfl) (by kernel_rfl) (by kernel_rfl) (fun _ _ _ h => h) (Or.inl ⟨by rfl, fun w hSw => by go_simp⟩) hS ?_
        simp only [Act.put, List.getElem_toArray, List.getElem_cons_succ, List.getElem_cons_zero, List.setIfInBounds_toArray, List.set_cons_zero, List.set_cons_succ]
        refine wpAnyH_take (i := 10) (v := .int .i64 X) rfl (by kernel_rfl) (by kernel_rfl) (by kernel_rfl) (fun _ _ _ h => h) (Or.inl ⟨by rfl, fun w hSw => by obtain ⟨c0, c1⟩ := HCK.out _ hSw; go_simp⟩) hS ?_
        simp only [Act.put, List.getElem_toArray, List.getElem_cons_succ, List.getElem_cons_zero, List.setIfInBounds_toArray, List.set_cons_zero, List.set_cons_succ]
        refine wpAnyH_take (i := 11) (v := .int .u64 (IntKind.u64.wrap X)) rfl (by kernel_rfl) (by kernel_rfl) (by kernel_rfl) (fun _ _ _ h => h) (Or.inl ⟨by rfl, fun w hSw => by go_simp⟩) hS ?_
        simp only [Act.put, List.getElem_toArray, List.getElem_cons_succ, List.getElem_cons_zero, List.setIfInBounds_toArray, List.set_cons_zero, List.set_cons_succ]
        refine wpAnyH_take (i := 12) (v := .slice (some ⟨w.heap.size + 3, 0, none⟩) 8 8) rfl (by kernel_rfl) (by kernel_rfl) (by kernel_rfl) (fun _ _ _ h => h) (Or.inl ⟨by rfl, fun w hSw => by go_simp⟩) hS ?_
        simp only [Act.put, List.getElem_toArray, List.getElem_cons_succ, List.getElem_cons_zero, List.setIfInBounds_toArray, List.set_cons_zero, List.set_cons_succ]
        refine wpAnyH_take (i := 13) (v := .int .i64 (k : Int)) rfl (by kernel_rfl) (by kernel_rfl) (by kernel_rfl) (fun _ _ _ h => h) (Or.inl ⟨by rfl, fun w hSw => by go_simp⟩) hS ?_
        simp only [Act.put, List.getElem_toArray, List.getElem_cons_succ, List.getElem_cons_zero, List.setIfInBounds_toArray, List.set_cons_zero, List.set_cons_succ]
        refine wpAnyH_take (i := 14) (v := .pointer (some ⟨w.heap.size + 3, k, none⟩)) rfl (by kernel_rfl) (by kernel_rfl) (by kernel_rfl) (fun _ _ _ h => h) (Or.inl ⟨by rfl, fun w hSw => by go_simp⟩) hS ?_
        simp only [Act.put, List.getElem_toArray, List.getElem_cons_succ, List.getElem_cons_zero, List.setIfInBounds_toArray, List.set_cons_zero, List.set_cons_succ]
        refine wpAnyH_take (i := 15) (v := .int .i64 (M : Int)) rfl (by kernel_rfl) (by kernel_rfl) (by kernel_rfl) (fun _ _ _ h => h) (Or.inl ⟨by rfl, fun w hSw => by obtain ⟨c0, c1⟩ := HCK.out _ hSw; go_simp⟩) hS ?_
        simp only [Act.put, List.getElem_toArray, List.getElem_cons_succ, List.getElem_cons_zero, List.setIfInBounds_toArray, List.set_cons_zero, List.set_cons_succ]
        refine wpAnyH_ready (rs := [16]) (by kernel_rfl) (by simp) ?_
        refine AllReadyH.cons rfl (fun K hK => ?_) AllReadyH.nil
        go_simp
        refine HKO.mono ?_
        rintro e w2 ⟨rfl, ao2, h2⟩
        have H2 : Hid (LY w w2 i ao2 (layK i (k + 1))) := h2
        refine hK.out _ _ (show Hid _ from ⟨h2.fv, h2.wd⟩) (fun hS2 => ?_)
        clear hK K h2 HKO hS
        try simp only [Act.put, List.getElem_toArray, List.getElem_cons_succ, List.getElem_cons_zero, List.setIfInBounds_toArray, List.set_cons_zero, List.set_cons_succ]
        refine wpAnyH_take (i := 17) (v := .bool false) rfl (by kernel_rfl) (by kernel_rfl) (by kernel_rfl) (fun _ _ _ h => h) (Or.inl ⟨by rfl, fun w hSw => by go_simp⟩) hS2 ?_
        simp only [Act.put, List.getElem_toArray, List.getElem_cons_succ, List.getElem_cons_zero, List.setIfInBounds_toArray, List.set_cons_zero, List.set_cons_succ]
        refine wpAnyH_take (i := 18) (v := .bool false) rfl (by kernel_rfl) (by kernel_rfl) (by kernel_rfl) (fun _ _ _ h => h) (Or.inl ⟨by rfl, fun w hSw => by go_simp⟩) hS2 ?_
        simp only [Act.put, List.getElem_toArray, List.getElem_cons_succ, List.getElem_cons_zero, List.setIfInBounds_toArray, List.set_cons_zero, List.set_cons_succ]
        refine wpAnyH_done (by kernel_rfl) ?_ _
        go_wp2_with fail
        go_roundw
        case rel => exact ⟨k + 1, ao2, by omega, by go_num, H2.out, HL2.out⟩
        case measure => simp [intOf]; omega
      · have HNO : Hid (¬ layOk i) := fun h => hin (HN.out.1 h.1 k hlt)
        by_cases h0 : fldI i k < 0
        · have c0 := (HCK.out wr (show Hid _ from ⟨HX.out.fv, HX.out.wd⟩)).1
          generalize fldI i k = X at *
          generalize widK k = M at *
          clear hin KO KB KY HL HCC HC8 KX HE HT HN HXD HFT hfit HCK HRD hwk
          go_upto_region 7 with fail
          go_quiet (fail)
          go_wp2_with fail
          go_ret2
          exact ⟨.inr ⟨HNO.out, rfl⟩, HX.out.bl.trans (below_drewN (Below.refl _ _) _)⟩
        · have h0 : 0 ≤ fldI i k := by omega
          have HKB := KB.out k hin wr.drew
          generalize fldI i k = X at *
          generalize widK k = M at *
          clear hin KO KB KY HL HCC HC8 KX HE HT HN HFT hfit HX
          go_upto_region 7 with fail
          refine wp_region_held_drew (S := fun wx => Hid (wx.heap[w.heap.size + 2]? = some (.cells #[.int .i64 (fldI i 0), .int .i64 (fldI i 1), .int .i64 (fldI i 2), .int .i64 (fldI i 3), .int .i64 (fldI i 4), .int .i64 (fldI i 5), .int .i64 (fldI i 6), .int .i64 (fldI i 7)] 3 (0, 0)) ∧ wx.heap[w.heap.size + 3]? = some (.cells widA 3 (0, 0)))) (by kernel_rfl) HRD (fun hS => ?_)
          refine wpAnyH_take (i := 0) (v := .slice (some ⟨w.heap.size + 2, 0, none⟩) 8 8) rfl (by kernel_rfl) (by kernel_rfl) (by kernel_rfl) (fun _ _ _ h => h) (Or.inl ⟨by rfl, fun w hSw => by go_simp⟩) hS ?_
          simp only [Act.put, List.getElem_toArray, List.getElem_cons_succ, List.getElem_cons_zero, List.setIfInBounds_toArray, List.set_cons_zero, List.set_cons_succ]
          refine wpAnyH_take (i := 1) (v := .int .i64 (k : Int)) rfl (by kernel_rfl) (by kernel_rfl) (by kernel_rfl) (fun _ _ _ h => h) (Or.inl ⟨by rfl, fun w hSw => by go_simp⟩) hS ?_
          simp only [Act.put, List.getElem_toArray, List.getElem_cons_succ, List.getElem_cons_zero, List.setIfInBounds_toArray, List.set_cons_zero, List.set_cons_succ]
          refine wpAnyH_take (i := 2) (v := .pointer (some ⟨w.heap.size + 2, k, none⟩)) rfl (by kernel_rfl) (by kernel_rfl) (by kernel_rfl) (fun _ _ _ h => h) (Or.inl ⟨by rfl, fun w hSw => by go_simp⟩) hS ?_
          simp only [Act.put, List.getElem_toArray, List.getElem_cons_succ, List.getElem_cons_zero, List.setIfInBounds_toArray, List.set_cons_zero, List.set_cons_succ]
          refine wpAnyH_take (i := 3) (v := .int .i64 X) rfl (by kernel_rfl) (by kernel_rfl) (by kernel_rfl) (fun _ _ _ h => h) (Or.inl ⟨by rfl, fun w hSw => by obtain ⟨c0, c1⟩ := HCK.out _ hSw; go_simp⟩) hS ?_
          simp only [Act.put, List.getElem_toArray, List.getElem_cons_succ, List.getElem_cons_zero, List.setIfInBounds_toArray, List.set_cons_zero, List.set_cons_succ]
          refine wpAnyH_take (i := 4) (v := .bool false) rfl (by kernel_rfl) (by kernel_rfl) (by kernel_rfl) (fun _ _ _ h => h) (Or.inl ⟨by rfl, fun w hSw => by go_simp⟩) hS ?_
          simp only [Act.put, List.getElem_toArray, List.getElem_cons_succ, List.getElem_cons_zero, List.setIfInBounds_toArray, List.set_cons_zero, List.set_cons_succ]
          refine wpAnyH_take (i := 5) (v := .bool false) rfl (by kernel_rfl) (by kernel_rfl) (by kernel_rfl) (fun _ _ _ h => h) (Or.inl ⟨by rfl, fun w hSw => by go_simp⟩) hS ?_
          simp only [Act.put, List.getElem_toArray, List.getElem_cons_succ, List.getElem_cons_zero, List.setIfInBounds_toArray, List.set_cons_zero, List.set_cons_succ]
          refine wpAnyH_take (i := 6) (v := .pointer (some ⟨w.heap.size + 1, 0, none⟩)) rfl (by kernel_rfl) (by kernel_rfl) (by kernel_rfl) (fun _ _ _ h => h) (Or.inl ⟨by rfl, fun w hSw => by go_simp⟩) hS ?_
          simp only [Act.put, List.getElem_toArray, List.getElem_cons_succ, List.getElem_cons_zero, List.setIfInBounds_toArray, List.set_cons_zero, List.set_cons_succ]
          refine wpAnyH_take (i := 7) (v := .slice (some ⟨w.heap.size + 2, 0, none⟩) 8 8) rfl (by kernel_rfl) (by kernel_rfl) (by kernel_rfl) (fun _ _ _ h => h) (Or.inl ⟨by rfl, fun w hSw => by go_simp⟩) hS ?_
          simp only [Act.put, List.getElem_toArray, List.getElem_cons_succ, List.getElem_cons_zero, List.setIfInBounds_toArray, List.set_cons_zero, List.set_cons_succ]
          refine wpAnyH_take (i := 8) (v := .int .i64 (k : Int)) rfl (by kernel_rfl) (by kernel_rfl) (by kernel_rfl) (fun _ _ _ h => h) (Or.inl ⟨by rfl, fun w hSw => by go_simp⟩) hS ?_
          simp only [Act.put, List.getElem_toArray, List.getElem_cons_succ, List.getElem_cons_zero, List.setIfInBounds_toArray, List.set_cons_zero, List.set_cons_succ]
          refine wpAnyH_take (i := 9) (v := .pointer (some ⟨w.heap.size + 2, k, none⟩)) rfl (by kernel_rfl) (by kernel_rfl) (by kernel_rfl) (fun _ _ _ h => h) (Or.inl ⟨by rfl, fun w hSw => by go_simp⟩) hS ?_
          simp only [Act.put, List.getElem_toArray, List.getElem_cons_succ, List.getElem_cons_zero, List.setIfInBounds_toArray, List.set_cons_zero, List.set_cons_succ]
          refine wpAnyH_take (i := 10) (v := .int .i64 X) rfl (by kernel_rfl) (by kernel_rfl) (by kernel_rfl) (fun _ _ _ h => h) (Or.inl ⟨by rfl, fun w hSw => by obtain ⟨c0, c1⟩ := HCK.out _ hSw; go_simp⟩) hS ?_
          simp only [Act.put, List.getElem_toArray, List.getElem_cons_succ, List.getElem_cons_zero, List.setIfInBounds_toArray, List.set_cons_zero, List.set_cons_succ]
          refine wpAnyH_take (i := 11) (v := .int .u64 (IntKind.u64.wrap X)) rfl (by kernel_rfl) (by kernel_rfl) (by kernel_rfl) (fun _ _ _ h => h) (Or.inl ⟨by rfl, fun w hSw => by go_simp⟩) hS ?_
          simp only [Act.put, List.getElem_toArray, List.getElem_cons_succ, List.getElem_cons_zero, List.setIfInBounds_toArray, List.set_cons_zero, List.set_cons_succ]
          refine wpAnyH_take (i := 12) (v := .slice (some ⟨w.heap.size + 3, 0, none⟩) 8 8) rfl (by kernel_rfl) (by kernel_rfl) (by kernel_rfl) (fun _ _ _ h => h) (Or.inl ⟨by rfl, fun w hSw => by go_simp⟩) hS ?_
          simp only [Act.put, List.getElem_toArray, List.getElem_cons_succ, List.getElem_cons_zero, List.setIfInBounds_toArray, List.set_cons_zero, List.set_cons_succ]
          refine wpAnyH_take (i := 13) (v := .int .i64 (k : Int)) rfl (by kernel_rfl) (by kernel_rfl) (by kernel_rfl) (fun _ _ _ h => h) (Or.inl ⟨by rfl, fun w hSw => by go_simp⟩) hS ?_
          simp only [Act.put, List.getElem_toArray, List.getElem_cons_succ, List.getElem_cons_zero, List.setIfInBounds_toArray, List.set_cons_zero, List.set_cons_succ]
          refine wpAnyH_take (i := 14) (v := .pointer (some ⟨w.heap.size + 3, k, none⟩)) rfl (by kernel_rfl) (by kernel_rfl) (by kernel_rfl) (fun _ _ _ h => h) (Or.inl ⟨by rfl, fun w hSw => by go_simp⟩) hS ?_
          simp only [Act.put, List.getElem_toArray, List.getElem_cons_succ, List.getElem_cons_zero, List.setIfInBounds_toArray, List.set_cons_zero, List.set_cons_succ]
          refine wpAnyH_take (i := 15) (v := .int .i64 (M : Int)) rfl (by kernel_rfl) (by kernel_rfl) (by kernel_rfl) (fun _ _ _ h => h) (Or.inl ⟨by rfl, fun w hSw => by obtain ⟨c0, c1⟩ := HCK.out _ hSw; go_simp⟩) hS ?_
          simp only [Act.put, List.getElem_toArray, List.getElem_cons_succ, List.getElem_cons_zero, List.setIfInBounds_toArray, List.set_cons_zero, List.set_cons_succ]
          refine wpAnyH_ready (rs := [16]) (by kernel_rfl) (by simp) ?_
          refine AllReadyH.cons rfl (fun K hK => ?_) AllReadyH.nil
          go_simp
          refine HKB.mono ?_
          rintro e w2 ⟨rfl, rfl⟩
          refine hK.out _ _ HRD (fun hS2 => ?_)
          clear hK K HKB hS
          try simp only [Act.put, List.getElem_toArray, List.getElem_cons_succ, List.getElem_cons_zero, List.setIfInBounds_toArray, List.set_cons_zero, List.set_cons_succ]
          refine wpAnyH_take (i := 17) (v := .bool true) rfl (by kernel_rfl) (by kernel_rfl) (by kernel_rfl) (fun _ _ _ h => h) (Or.inl ⟨by rfl, fun w hSw => by go_simp⟩) hS2 ?_
          simp only [Act.put, List.getElem_toArray, List.getElem_cons_succ, List.getElem_cons_zero, List.setIfInBounds_toArray, List.set_cons_zero, List.set_cons_succ]
          refine wpAnyH_take (i := 18) (v := .bool true) rfl (by kernel_rfl) (by kernel_rfl) (by kernel_rfl) (fun _ _ _ h => h) (Or.inl ⟨by rfl, fun w hSw => by go_simp⟩) hS2 ?_
          simp only [Act.put, List.getElem_toArray, List.getElem_cons_succ, List.getElem_cons_zero, List.setIfInBounds_toArray, List.set_cons_zero, List.set_cons_succ]
          refine wpAnyH_done (by kernel_rfl) ?_ _
          go_wp2_with fail
          go_ret2
          exact ⟨.inr ⟨HNO.out, rfl⟩, HXD.out.bl⟩
    · have hk8 : k = 8 := by omega
      subst hk8
      have HYES : Hid (numsOk i) := HN.out.2 HL.out
      have HXD : Hid (LY w wr.drew i ao (layK i 8)) := HX.out.low ⟨rfl, rfl, rfl, Nat.le_refl _, fun _ _ => rfl⟩
      have HKY := KY.out wr.drew ao HXD.out
      have HD : Hid (wr.drew.heap[w.heap.size]? = some (.cells (stiC i) 23 (0, 0)) ∧ Below w.heap.size w wr.drew) := ⟨HXD.out.inf, HXD.out.bl⟩
      rw [HT.out HYES.out] at HKY
      have KX2 : Hid (∀ wx, Calls Tryd.prog 9 #[.string (numT i ++ i.dg)] wx fun e w' => e = .returned (.tuple #[stiV (infR (numT i ++ i.dg)), .int .i64 (infE (numT i ++ i.dg))]) ∧ Below wx.heap.size wx w') := fun wx => KX.out wx hnt
      have HE2 : Hid (infE (numT i ++ i.dg) = if i.dg.size = 16 then fltE i else 2) := HE.out HYES.out
      generalize hTT : numT i = TT at *
      have HTT : Hid (numT i = TT) := hTT
      clear KO KB KY HL HX HXD HCC KX HE HT HN HFT hTT
      go_upto_region 9 with fail
      refine wp_region_held_drew (S := fun wx => Hid (wx.heap[w.heap.size]? = some (.cells (stiC i) 23 (0, 0)) ∧ Below w.heap.size w wx)) (by kernel_rfl) HD (fun hS => ?_)
      refine wpAnyH_take (i := 0) (v := .pointer (some ⟨w.heap.size + 1, 0, none⟩)) rfl (by kernel_rfl) (by kernel_rfl) (by kernel_rfl) (fun _ _ _ h => h) (Or.inl ⟨by rfl, fun w hSw => by go_simp⟩) hS ?_
      simp only [Act.put, List.getElem_toArray, List.getElem_cons_succ, List.getElem_cons_zero, List.setIfInBounds_toArray, List.set_cons_zero, List.set_cons_succ]
      refine wpAnyH_take (i := 2) (v := .pointer (some ⟨w.heap.size, 8, none⟩)) rfl (by kernel_rfl) (by kernel_rfl) (by kernel_rfl) (fun _ _ _ h => h) (Or.inl ⟨by rfl, fun w hSw => by go_simp⟩) hS ?_
      simp only [Act.put, List.getElem_toArray, List.getElem_cons_succ, List.getElem_cons_zero, List.setIfInBounds_toArray, List.set_cons_zero, List.set_cons_succ]
      refine wpAnyH_take (i := 3) (v := .string i.dg) rfl (by kernel_rfl) (by kernel_rfl) (by kernel_rfl) (fun _ _ _ h => h) (Or.inl ⟨by rfl, fun w hSw => by have c8 := HC8.out _ hSw; go_simp⟩) hS ?_
      simp only [Act.put, List.getElem_toArray, List.getElem_cons_succ, List.getElem_cons_zero, List.setIfInBounds_toArray, List.set_cons_zero, List.set_cons_succ]
      refine wpAnyH_ready (rs := [1]) (by kernel_rfl) (by simp) ?_
      refine AllReadyH.cons rfl (fun K hK => ?_) AllReadyH.nil
      go_simp
      refine HKY.mono ?_
      rintro e w2 ⟨rfl, h2⟩
      have HS2 : Hid (w2.heap[w.heap.size]? = some (.cells (stiC i) 23 (0, 0)) ∧ Below w.heap.size w w2) := ⟨by rw [h2.block _ (lt_of_block HD.out.1)]; exact HD.out.1, HD.out.2.trans (h2.mono HD.out.2.size)⟩
      refine hK.out _ _ HS2 (fun hS2 => ?_)
      clear hK K h2 hS HKY
      try simp only [Act.put, List.getElem_toArray, List.getElem_cons_succ, List.getElem_cons_zero, List.setIfInBounds_toArray, List.set_cons_zero, List.set_cons_succ]
      refine wpAnyH_take (i := 4) (v := .string (TT ++ i.dg)) rfl (by kernel_rfl) (by kernel_rfl) (by kernel_rfl) (fun _ _ _ h => h) (Or.inl ⟨by rfl, fun w hSw => by go_simp; omega⟩) hS2 ?_
      simp only [Act.put, List.getElem_toArray, List.getElem_cons_succ, List.getElem_cons_zero, List.setIfInBounds_toArray, List.set_cons_zero, List.set_cons_succ]
      refine wpAnyH_take (i := 5) (v := .string (TT ++ i.dg)) rfl (by kernel_rfl) (by kernel_rfl) (by kernel_rfl) (fun _ _ _ h => h) (Or.inl ⟨by rfl, fun w hSw => by go_simp⟩) hS2 ?_
      simp only [Act.put, List.getElem_toArray, List.getElem_cons_succ, List.getElem_cons_zero, List.setIfInBounds_toArray, List.set_cons_zero, List.set_cons_succ]
      refine wpAnyH_done (by kernel_rfl) ?_ _
      have kx := KX2.out w2
      generalize hxx : TT ++ i.dg = XX at *
      have HXX : Hid (TT ++ i.dg = XX) := hxx
      clear hxx KX2 HC8 HD
      by_cases h0 : infE XX = 0
      · have HL : Hid (layOk i) := by
          have h := HE2.out
          rw [h0] at h
          by_cases h16 : i.dg.size = 16
          · rw [if_pos h16] at h
            exact ⟨HYES.out, h16, h.symm⟩
          · rw [if_neg h16] at h
            cases h
        rw [h0] at kx
        clear h0 HE2
        generalize infR XX = R at *
        go_wp2_with fail
        refine kx.mono ?_
        rintro e w3 ⟨rfl, h3⟩
        have HB3 : Hid (Below w.heap.size w w3) := HS2.out.2.trans (h3.mono HS2.out.2.size)
        clear h3 kx
        go_wp2_with fail
        go_ret2
        exact ⟨.inl ⟨HL.out, by rw [HTT.out, HXX.out]; rfl⟩, HB3.out.alloc HB3.out.size _⟩
      · have HL : Hid (¬ layOk i) := fun h => h0 (by rw [HE2.out, if_pos h.2.1]; exact h.2.2)
        have bz : (infE XX != 0) = true := by rw [bne_iff_ne]; exact h0
        clear h0 HE2
        generalize infR XX = R at *
        generalize infE XX = E at *
        go_wp2_with fail
        refine kx.mono ?_
        rintro e w3 ⟨rfl, h3⟩
        have HB3 : Hid (Below w.heap.size w w3) := HS2.out.2.trans (h3.mono HS2.out.2.size)
        clear h3 kx
        go_wp2_with fail
        go_ret2
        exact ⟨.inr ⟨HL.out, rfl⟩, HB3.out.alloc HB3.out.size _⟩

end Go.Proofs.YtfmpiidnemhijaaDoor
