/- Own text: the walk of awake. -/
import Derived.Test.YtfmpiidnemhijaaDoorP13awake
import Derived.Test.YtfmpiidnemhijaaDoorQ13parse
import Derived.Deep.Cut
namespace Go.Proofs.YtfmpiidnemhijaaDoor
open Go.RowKit
set_option linter.unusedSimpArgs false
set_option linter.unusedVariables false

theorem made16 (wx : World) : (Instr.makeSlice 63 (.int .i64 16) (.int .i64 16)).run Tryd.prog wx = .ok (.slice (some ⟨wx.heap.size, 0, none⟩) 16 16) (wx.alloc (.cells (madeCells #[.int .u8 0] 16) 5)) := S2.made_run 16 (by decide) wx
theorem conv16 (wx : World) : (convert 63 9 (.slice (some ⟨wx.heap.size, 0, none⟩) 16 16)).run Tryd.prog (wx.alloc (.cells (madeCells #[.int .u8 0] 16) 5)) = .ok (.string zer16) (wx.alloc (.cells (madeCells #[.int .u8 0] 16) 5)) := by
  have hr := World.rowIs_made wx (.int .u8 0) 16 5
  have hc := S2.conv_row (cap := 16) (f := fun _ => 0) (hr.congr (fun i _ => rfl))
  rw [hc]
  rfl
set_option maxRecDepth 20000 in
set_option maxHeartbeats 3200000 in
theorem linfo_any (w : World) : Calls Tryd.prog 26 #[] w fun e w' => e = .returned (stiV sti13) ∧ Below w.heap.size w w' := by
  have HZ : Hid ((w.alloc (.cells (stiC Sti0) 23)).heap[w.heap.size]? = some (.cells (stiC Sti0) 23 (0, 0)) ∧ Below w.heap.size w (w.alloc (.cells (stiC Sti0) 23))) := ⟨heap_alloc_new _ _, (Below.refl _ _).alloc (Nat.le_refl _) _⟩
  have hmk := made16
  have hcv := conv16
  go_enter Tryd.func26, Tryd.ntmps26
  go_upto_region 1 with fail
  generalize World.alloc w _ = wa at *
  have HZ1 : Hid ((wa.alloc (.cells (madeCells #[.int .u8 0] 16) 5)).heap[w.heap.size]? = some (.cells (stiC Sti0) 23 (0, 0)) ∧ Below w.heap.size w (wa.alloc (.cells (madeCells #[.int .u8 0] 16) 5))) := ⟨by rw [Below.heap_alloc _ _ _ (lt_of_block HZ.out.1)]; exact HZ.out.1, HZ.out.2.alloc HZ.out.2.size _⟩
  have hmw := hmk wa
  have hcw := hcv wa
  generalize wa.alloc (.cells (madeCells #[.int .u8 0] 16) 5) = wb at *
  generalize wa.heap.size = g at *
  clear hmk hcv HZ
  have a0 : wb.cell? ⟨w.heap.size, 0, none⟩ = some (.int .i64 0) := by rw [cell_of_row _ _ _ _ _ _ HZ1.out.1]; rfl
  have f0 := fz_of HZ1.out.1 0
  have a1 : wb.cell? ⟨w.heap.size, 1, none⟩ = some (.int .i64 0) := by rw [cell_of_row _ _ _ _ _ _ HZ1.out.1]; rfl
  have f1 := fz_of HZ1.out.1 1
  have a2 : wb.cell? ⟨w.heap.size, 2, none⟩ = some (.int .i64 0) := by rw [cell_of_row _ _ _ _ _ _ HZ1.out.1]; rfl
  have f2 := fz_of HZ1.out.1 2
  have a3 : wb.cell? ⟨w.heap.size, 3, none⟩ = some (.int .i64 0) := by rw [cell_of_row _ _ _ _ _ _ HZ1.out.1]; rfl
  have f3 := fz_of HZ1.out.1 3
  have a4 : wb.cell? ⟨w.heap.size, 4, none⟩ = some (.int .i64 0) := by rw [cell_of_row _ _ _ _ _ _ HZ1.out.1]; rfl
  have f4 := fz_of HZ1.out.1 4
  have a5 : wb.cell? ⟨w.heap.size, 5, none⟩ = some (.int .i64 0) := by rw [cell_of_row _ _ _ _ _ _ HZ1.out.1]; rfl
  have f5 := fz_of HZ1.out.1 5
  have a6 : wb.cell? ⟨w.heap.size, 6, none⟩ = some (.int .i64 0) := by rw [cell_of_row _ _ _ _ _ _ HZ1.out.1]; rfl
  have f6 := fz_of HZ1.out.1 6
  have a7 : wb.cell? ⟨w.heap.size, 7, none⟩ = some (.int .i64 0) := by rw [cell_of_row _ _ _ _ _ _ HZ1.out.1]; rfl
  have f7 := fz_of HZ1.out.1 7
  have a8 : wb.cell? ⟨w.heap.size, 8, none⟩ = some (.string ⟨#[]⟩) := by rw [cell_of_row _ _ _ _ _ _ HZ1.out.1]; rfl
  have f8 := fz_of HZ1.out.1 8
  go_wp2_with fail
  clear hmw hcw a0 f0 a1 f1 a2 f2 a3 f3 a4 f4 a5 f5 a6 f6 a7 f7 a8 f8
  generalize hwf : World.setCell _ _ _ = wf
  have HF : Hid (wf.heap[w.heap.size]? = some (.cells (stiC sti13) 23 (0, 0)) ∧ Below w.heap.size w wf) := by
    rw [← hwf]
    exact ⟨set9 _ _ _ _ _ _ _ _ _ _ _ _ _ rfl HZ1.out.1, set9b _ _ _ _ _ _ _ _ _ _ _ _ (Nat.le_refl _) HZ1.out.2⟩
  refine bodyPost_ret (v := stiV sti13) ?_ rfl ⟨rfl, HF.out.2⟩
  rw [res_one13 rfl]
  have hld := run_loadVar_row (P := Tryd.prog) wf w.heap.size 23 23 _ (0, 0) _ HF.out.1 Tryd.underlying23 rfl info_sti
  simp [asAddr, Result.andThen, hld]
/-- awake's boxes: what Info told; the list; the first answer. -/
structure AX (w0 : World) (g3 : Nat) (bo : Option Addr) (wx : World) : Prop where
  b3 : wx.heap[g3]? = some (.cells (stiC sti13) 23 (0, 0))
  ls : BlksAt wx bo lst13
  bl : Below w0.heap.size w0 wx
theorem AX.next {w0 wx w' : World} {g3 : Nat} {bo : Option Addr} (h : AX w0 g3 bo wx) (hb : Below wx.heap.size wx w') : AX w0 g3 bo w' := ⟨by rw [hb.block _ (lt_of_block h.b3)]; exact h.b3, h.ls.below hb, h.bl.trans (hb.mono h.bl.size)⟩
theorem lst_new (w : World) : BlksAt (w.alloc (.cells #[.int .i64 0, .string txt13, .int .i64 1, .string two07] 36)) (some ⟨w.heap.size, 0, none⟩) lst13 := by
  refine ⟨fun _ => ⟨w.heap.size, 0, rfl, fun i c hi => ?_⟩⟩
  have hl := (List.getElem?_eq_some_iff.1 hi).1
  have hn := heap_alloc_new w (.cells #[.int .i64 0, .string txt13, .int .i64 1, .string two07] 36)
  match i, hl with
  | 0, _ =>
    simp [lst13] at hi
    subst hi
    exact ⟨by rw [cell_of_row _ _ _ _ _ _ hn]; rfl, by rw [cell_of_row _ _ _ _ _ _ hn]; rfl⟩
  | 1, _ =>
    simp [lst13] at hi
    subst hi
    exact ⟨by rw [cell_of_row _ _ _ _ _ _ hn]; rfl, by rw [cell_of_row _ _ _ _ _ _ hn]; rfl⟩
set_option maxRecDepth 20000 in
theorem idx_two0 (wx : World) : (Instr.index 9 (.string (textOf (layL lst13))) (.int .i64 0)).run Tryd.prog wx = .ok (.int .u8 0) wx := by
  have hs : 0 < (textOf (layL lst13)).size := by rw [S2.textOf_size, lay_two_len]; decide
  have h := two_first hs
  rw [run_index_string (P := Tryd.prog) (w := wx) (t := 9) (s := textOf (layL lst13)) (k := .i64) (i := 0) Tryd.underlying9]
  have hs' : (0 : Int) ≤ 0 ∧ (0 : Int) < ((textOf (layL lst13)).size : Int) := by omega
  rw [dif_pos hs']
  show Result.ok (Value.int .u8 (((textOf (layL lst13))[0]'hs).toNat : Int)) wx = _
  rw [h]
  rfl
set_option maxRecDepth 20000 in
theorem idx_two38 (wx : World) : (Instr.index 9 (.string (textOf (layL lst13))) (.int .i64 38)).run Tryd.prog wx = .ok (.int .u8 129) wx := by
  have hs : 38 < (textOf (layL lst13)).size := by rw [S2.textOf_size, lay_two_len]; decide
  have h := two_mid hs
  rw [run_index_string (P := Tryd.prog) (w := wx) (t := 9) (s := textOf (layL lst13)) (k := .i64) (i := 38) Tryd.underlying9]
  have hs' : (0 : Int) ≤ 38 ∧ (38 : Int) < ((textOf (layL lst13)).size : Int) := by omega
  rw [dif_pos hs']
  show Result.ok (Value.int .u8 (((textOf (layL lst13))[38]'hs).toNat : Int)) wx = _
  rw [h]
  rfl
set_option maxRecDepth 20000 in
set_option maxHeartbeats 3200000 in
theorem awake_any (w : World) (hW : WidAt w) : Calls Tryd.prog 12 #[] w fun e w' => e = .returned (.bool true) ∧ Below w.heap.size w w' := by
  have HW : Hid (WidAt w) := hW
  have KI := linfo_any
  have KL : Hid (∀ wx, Below w.heap.size w wx → Calls Tryd.prog 10 #[stiV sti13] wx fun e w' => e = .returned (.tuple #[.string txt13, .int .i64 0]) ∧ Below wx.heap.size wx w') := fun wx hb => (layInfo_any sti13 fit13 wx (HW.out.below hb)).mono fun e w' h => by
    obtain ⟨h1 | h1, h2⟩ := h
    · exact ⟨h1.2, h2⟩
    · exact absurd lay13 h1.1
  have KF : Hid (∀ wx, Below w.heap.size w wx → Calls Tryd.prog 8 #[.string txt13] wx fun e w' => e = .returned (.tuple #[stiV sti13, .int .i64 0]) ∧ Below wx.heap.size wx w') := fun wx hb => (info_any txt13 (by rw [txt13_size]; decide) wx (HW.out.below hb)).mono fun e w' h => by
    rw [inf13.1, inf13.2] at h
    exact h
  have KB : Hid (∀ wx g, Below w.heap.size w wx → BlksAt wx g lst13 → Calls Tryd.prog 18 #[.slice g 2 2] wx fun e w' => e = .returned (.tuple #[.string (textOf (layL lst13)), .int .i64 0]) ∧ Below wx.heap.size wx w') := fun wx g hb hl => (build_any lst13 g 2 wx hl (fun b hb => by have := (std_mem lst13 0 false (Bool.and_eq_true_iff.1 may_two).1 b hb).2.2.1; omega) (by decide) (HW.out.below hb)).mono fun e w' h => by
    obtain ⟨h1 | h1, h2⟩ := h
    · exact ⟨h1.2, h2⟩
    · rw [may_two] at h1; cases h1.1
  have KP : Hid (∀ wx l n, mayS l = true → (layL l).length = n → n ≤ 1000 → Below w.heap.size w wx → Calls Tryd.prog 15 #[.string (textOf (layL l) ++ ⟨#[120]⟩)] wx fun e w' => (∃ ao cap, e = .returned (.tuple #[.slice ao l.length cap, .int .i64 (n : Int), .int .i64 0]) ∧ BlksAt w' ao l) ∧ Below wx.heap.size wx w') := fun wx l n hm hn hn2 hb => (parse_any _ (by rw [ByteArray.size_append, S2.textOf_size, hn]; show n + 1 ≤ _; omega) wx (HW.out.below hb)).mono fun e w' h => by
    obtain ⟨⟨ao, cap, h1, h2, _⟩, h3⟩ := h
    rw [behind hm, hn] at h1
    rw [behind hm] at h2
    exact ⟨⟨ao, cap, h1, h2⟩, h3⟩
  have KS : Hid (∀ wx g ao cap, BlksAt wx g lst13 → BlksAt wx ao lst13 → Calls Tryd.prog 17 #[.slice g 2 2, .slice ao 2 cap] wx fun e w' => e = .returned (.bool true) ∧ Below wx.heap.size wx w') := fun wx g ao cap h1 h2 => (same_any lst13 lst13 g ao 2 cap wx h1 h2 (by decide)).mono fun e w' h => by
    obtain ⟨h3, n, h4⟩ := h
    exact ⟨by rw [h3, sameL_self], by rw [h4]; exact below_drewN (Below.refl _ _) n⟩
  have KC : Hid (∀ wx b, Below w.heap.size w wx → b.body.size ≤ 1 → chkE b = 2 → Calls Tryd.prog 13 #[blkV b] wx fun e w' => e = .returned (.int .i64 2) ∧ Below wx.heap.size wx w') := fun wx b hb hs he => (check_any b (by omega) wx (HW.out.below hb)).mono fun e w' h => by rw [he] at h; exact h
  clear hW
  go_enter Tryd.func12, Tryd.ntmps12
  go_wp2_with fail
  refine (KI w).mono ?_
  rintro e w1 ⟨rfl, hb1⟩
  have HB1 : Hid (Below w.heap.size w w1) := hb1
  clear hb1
  go_wp2_with fail
  refine (KL.out w1 HB1.out).mono ?_
  rintro e w2 ⟨rfl, hb2⟩
  have HB2 : Hid (Below w.heap.size w w2) := HB1.out.trans (hb2.mono HB1.out.size)
  clear hb2 HB1 KL
  go_wp2_with fail
  refine (KF.out w2 HB2.out).mono ?_
  rintro e w3 ⟨rfl, hb3⟩
  have HB3 : Hid (Below w.heap.size w w3) := HB2.out.trans (hb3.mono HB2.out.size)
  clear hb3 HB2 KF
  go_upto_region 4 with fail
  generalize hwx : World.alloc (World.alloc w3 _) _ = w4
  have HX4 : Hid (AX w w3.heap.size (some ⟨w3.heap.size + 1, 0, none⟩) w4) := by
    rw [← hwx]
    refine ⟨?_, ?_, (HB3.out.alloc HB3.out.size _).alloc (by simp; have := HB3.out.size; omega) _⟩
    · rw [Below.heap_alloc _ _ _ (by simp)]
      exact heap_alloc_new _ _
    · have := lst_new (w3.alloc (.cells (stiC sti13) 23))
      rwa [show (w3.alloc (.cells (stiC sti13) 23)).heap.size = w3.heap.size + 1 from by simp] at this
  have HI0 := idx_two0
  have HI38 := idx_two38
  have hsz2 : (textOf (layL lst13)).size = 44 := by rw [S2.textOf_size, lay_two_len]
  have K44 : Hid (∀ wx, Below w.heap.size w wx → Calls Tryd.prog 15 #[.string (textOf (layL lst13) ++ ⟨#[120]⟩)] wx fun e w' => (∃ ao cap, e = .returned (.tuple #[.slice ao 2 cap, .int .i64 44, .int .i64 0]) ∧ BlksAt w' ao lst13) ∧ Below wx.heap.size wx w') := fun wx hb => KP.out wx lst13 44 may_two lay_two_len (by decide) hb
  have K38 : Hid (∀ wx, Below w.heap.size w wx → Calls Tryd.prog 15 #[.string (⟨#[128, 0, 0, 34]⟩ ++ txt13 ++ ⟨#[120]⟩)] wx fun e w' => (∃ ao cap, e = .returned (.tuple #[.slice ao 1 cap, .int .i64 38, .int .i64 0]) ∧ BlksAt w' ao [one13]) ∧ Below wx.heap.size wx w') := fun wx hb => by
    rw [lead13]
    exact KP.out wx [one13] 38 may_one lay_one_len (by decide) hb
  have ht13 := txt13_size
  clear hwx HB3 KP
  generalize w3.heap.size = g3 at *
  generalize textOf (layL lst13) = t2 at *
  go_wp2_with fail
  refine (KB.out w4 _ HX4.out.bl HX4.out.ls).mono ?_
  rintro e w5 ⟨rfl, hb5⟩
  have HX5 : Hid (AX w g3 (some ⟨g3 + 1, 0, none⟩) w5) := HX4.out.next hb5
  clear hb5 HX4 KB
  go_wp2_with fail
  refine (K44.out w5 HX5.out.bl).mono ?_
  rintro e w6 ⟨⟨ao, cap, rfl, hao⟩, hb6⟩
  have HX6 : Hid (AX w g3 (some ⟨g3 + 1, 0, none⟩) w6 ∧ BlksAt w6 ao lst13) := ⟨HX5.out.next hb6, hao⟩
  clear hb6 hao HX5 K44
  go_wp2_with fail
  refine (K38.out w6 HX6.out.1.bl).mono ?_
  rintro e w7 ⟨⟨ao2, cap2, rfl, hao2⟩, hb7⟩
  have HX7 : Hid (AX w g3 (some ⟨g3 + 1, 0, none⟩) w7 ∧ BlksAt w7 ao lst13) := ⟨HX6.out.1.next hb7, HX6.out.2.below hb7⟩
  clear hb7 hao2 HX6 K38
  have HC : Hid (∀ wx, Hid (AX w g3 (some ⟨g3 + 1, 0, none⟩) wx ∧ BlksAt wx ao lst13) → wx.cell? ⟨g3, 0, none⟩ = some (.int .i64 16) ∧ wx.cell? ⟨g3, 1, none⟩ = some (.int .i64 4096) ∧ wx.cell? ⟨g3, 2, none⟩ = some (.int .i64 0) ∧ wx.cell? ⟨g3, 3, none⟩ = some (.int .i64 0) ∧ wx.cell? ⟨g3, 4, none⟩ = some (.int .i64 44100) ∧ wx.cell? ⟨g3, 5, none⟩ = some (.int .i64 2) ∧ wx.cell? ⟨g3, 6, none⟩ = some (.int .i64 16) ∧ wx.cell? ⟨g3, 7, none⟩ = some (.int .i64 0) ∧ wx.cell? ⟨g3, 8, none⟩ = some (.string zer16)) := fun wx h => sti_cells h.out.1.b3
  have HNX : Hid (∀ wx w', Hid (AX w g3 (some ⟨g3 + 1, 0, none⟩) wx ∧ BlksAt wx ao lst13) → Below wx.heap.size wx w' → Hid (AX w g3 (some ⟨g3 + 1, 0, none⟩) w' ∧ BlksAt w' ao lst13)) := fun wx w' h hb => ⟨h.out.1.next hb, h.out.2.below hb⟩
  have KI2 : Hid (∀ wx, Hid (AX w g3 (some ⟨g3 + 1, 0, none⟩) wx ∧ BlksAt wx ao lst13) → Calls Tryd.prog 26 #[] wx fun e w' => e = .returned (stiV sti13) ∧ Hid (AX w g3 (some ⟨g3 + 1, 0, none⟩) w' ∧ BlksAt w' ao lst13)) := fun wx h => (KI wx).mono fun e w' hh => ⟨hh.1, HNX.out _ _ h hh.2⟩
  have KS2 : Hid (∀ wx, Hid (AX w g3 (some ⟨g3 + 1, 0, none⟩) wx ∧ BlksAt wx ao lst13) → Calls Tryd.prog 17 #[.slice (some ⟨g3 + 1, 0, none⟩) 2 2, .slice ao 2 cap] wx fun e w' => e = .returned (.bool true) ∧ Hid (AX w g3 (some ⟨g3 + 1, 0, none⟩) w' ∧ BlksAt w' ao lst13)) := fun wx h => (KS.out wx _ ao cap h.out.1.ls h.out.2).mono fun e w' hh => ⟨hh.1, HNX.out _ _ h hh.2⟩
  have KC1 : Hid (∀ wx, Hid (AX w g3 (some ⟨g3 + 1, 0, none⟩) wx ∧ BlksAt wx ao lst13) → Calls Tryd.prog 13 #[.agg #[.int .i64 127, .string ⟨#[]⟩]] wx fun e w' => e = .returned (.int .i64 2) ∧ Hid (AX w g3 (some ⟨g3 + 1, 0, none⟩) w' ∧ BlksAt w' ao lst13)) := fun wx h => (KC.out wx ⟨127, ⟨#[]⟩⟩ h.out.1.bl (by decide) chk_127).mono fun e w' hh => ⟨hh.1, HNX.out _ _ h hh.2⟩
  have KC2 : Hid (∀ wx, Hid (AX w g3 (some ⟨g3 + 1, 0, none⟩) wx ∧ BlksAt wx ao lst13) → Calls Tryd.prog 13 #[.agg #[.int .i64 3, .string ⟨#[120]⟩]] wx fun e w' => e = .returned (.int .i64 2) ∧ Hid (AX w g3 (some ⟨g3 + 1, 0, none⟩) w' ∧ BlksAt w' ao lst13)) := fun wx h => (KC.out wx ⟨3, ⟨#[120]⟩⟩ h.out.1.bl (by decide) chk_3x).mono fun e w' hh => ⟨hh.1, HNX.out _ _ h hh.2⟩
  have HD : Hid (AX w g3 (some ⟨g3 + 1, 0, none⟩) w7.drew ∧ BlksAt w7.drew ao lst13) := HNX.out _ _ HX7 ⟨rfl, rfl, rfl, Nat.le_refl _, fun _ _ => rfl⟩
  have heq : ∀ wx, (binOp .eql 23 (.agg #[.int .i64 16, .int .i64 4096, .int .i64 0, .int .i64 0, .int .i64 44100, .int .i64 2, .int .i64 16, .int .i64 0, .string zer16]) (stiV sti13)).run Tryd.prog wx = .ok (.bool true) wx := beq_sti_self sti13
  have hs44 : ((t2.size : Nat) : Int) = 44 := by rw [hsz2]; rfl
  clear HX7 KI KS KC HNX HW hsz2
  go_upto_region 7 with fail
  refine wp_region_held_drew (S := fun wx => Hid (AX w g3 (some ⟨g3 + 1, 0, none⟩) wx ∧ BlksAt wx ao lst13)) (by kernel_rfl) HD (fun hS => ?_)
  refine wpAnyH_take (i := 0) (v := .int .i64 0) rfl (by kernel_rfl) (by kernel_rfl) (by kernel_rfl) (fun _ _ _ h => h) (Or.inl ⟨by rfl, fun w hSw => by go_simp⟩) hS ?_
  simp only [Act.put, List.getElem_toArray, List.getElem_cons_succ, List.getElem_cons_zero, List.setIfInBounds_toArray, List.set_cons_zero, List.set_cons_succ]
  refine wpAnyH_take (i := 1) (v := .bool true) rfl (by kernel_rfl) (by kernel_rfl) (by kernel_rfl) (fun _ _ _ h => h) (Or.inl ⟨by rfl, fun w hSw => by go_simp⟩) hS ?_
  simp only [Act.put, List.getElem_toArray, List.getElem_cons_succ, List.getElem_cons_zero, List.setIfInBounds_toArray, List.set_cons_zero, List.set_cons_succ]
  refine wpAnyH_take (i := 2) (v := .bool true) rfl (by kernel_rfl) (by kernel_rfl) (by kernel_rfl) (fun _ _ _ h => h) (Or.inl ⟨by rfl, fun w hSw => by go_simp⟩) hS ?_
  simp only [Act.put, List.getElem_toArray, List.getElem_cons_succ, List.getElem_cons_zero, List.setIfInBounds_toArray, List.set_cons_zero, List.set_cons_succ]
  refine wpAnyH_take (i := 3) (v := .int .i64 0) rfl (by kernel_rfl) (by kernel_rfl) (by kernel_rfl) (fun _ _ _ h => h) (Or.inl ⟨by rfl, fun w hSw => by go_simp⟩) hS ?_
  simp only [Act.put, List.getElem_toArray, List.getElem_cons_succ, List.getElem_cons_zero, List.setIfInBounds_toArray, List.set_cons_zero, List.set_cons_succ]
  refine wpAnyH_take (i := 4) (v := .bool true) rfl (by kernel_rfl) (by kernel_rfl) (by kernel_rfl) (fun _ _ _ h => h) (Or.inl ⟨by rfl, fun w hSw => by go_simp⟩) hS ?_
  simp only [Act.put, List.getElem_toArray, List.getElem_cons_succ, List.getElem_cons_zero, List.setIfInBounds_toArray, List.set_cons_zero, List.set_cons_succ]
  refine wpAnyH_take (i := 5) (v := .bool true) rfl (by kernel_rfl) (by kernel_rfl) (by kernel_rfl) (fun _ _ _ h => h) (Or.inl ⟨by rfl, fun w hSw => by go_simp⟩) hS ?_
  simp only [Act.put, List.getElem_toArray, List.getElem_cons_succ, List.getElem_cons_zero, List.setIfInBounds_toArray, List.set_cons_zero, List.set_cons_succ]
  refine wpAnyH_take (i := 6) (v := .bool true) rfl (by kernel_rfl) (by kernel_rfl) (by kernel_rfl) (fun _ _ _ h => h) (Or.inl ⟨by rfl, fun w hSw => by go_simp⟩) hS ?_
  simp only [Act.put, List.getElem_toArray, List.getElem_cons_succ, List.getElem_cons_zero, List.setIfInBounds_toArray, List.set_cons_zero, List.set_cons_succ]
  refine wpAnyH_take (i := 7) (v := .agg #[.int .i64 16, .int .i64 4096, .int .i64 0, .int .i64 0, .int .i64 44100, .int .i64 2, .int .i64 16, .int .i64 0, .string zer16]) rfl (by kernel_rfl) (by kernel_rfl) (by kernel_rfl) (fun _ _ _ h => h) (Or.inl ⟨by rfl, fun w hSw => by obtain ⟨c0, c1, c2, c3, c4, c5, c6, c7, c8⟩ := HC.out _ hSw; go_simp⟩) hS ?_
  simp only [Act.put, List.getElem_toArray, List.getElem_cons_succ, List.getElem_cons_zero, List.setIfInBounds_toArray, List.set_cons_zero, List.set_cons_succ]
  refine wpAnyH_ready (rs := [8]) (by kernel_rfl) (by simp) ?_
  refine AllReadyH.cons rfl (fun K hK => ?_) AllReadyH.nil
  go_simp
  refine (KI2.out _ hS).mono ?_
  rintro en wa ⟨rfl, h4⟩
  refine hK.out _ _ h4 (fun hS => ?_)
  clear hK K h4
  refine wpAnyH_take (i := 9) (v := .bool true) rfl (by kernel_rfl) (by kernel_rfl) (by kernel_rfl) (fun _ _ _ h => h) (Or.inl ⟨by rfl, fun w hSw => by go_simp⟩) hS ?_
  simp only [Act.put, List.getElem_toArray, List.getElem_cons_succ, List.getElem_cons_zero, List.setIfInBounds_toArray, List.set_cons_zero, List.set_cons_succ]
  refine wpAnyH_take (i := 10) (v := .bool true) rfl (by kernel_rfl) (by kernel_rfl) (by kernel_rfl) (fun _ _ _ h => h) (Or.inl ⟨by rfl, fun w hSw => by go_simp⟩) hS ?_
  simp only [Act.put, List.getElem_toArray, List.getElem_cons_succ, List.getElem_cons_zero, List.setIfInBounds_toArray, List.set_cons_zero, List.set_cons_succ]
  refine wpAnyH_take (i := 11) (v := .bool true) rfl (by kernel_rfl) (by kernel_rfl) (by kernel_rfl) (fun _ _ _ h => h) (Or.inl ⟨by rfl, fun w hSw => by go_simp⟩) hS ?_
  simp only [Act.put, List.getElem_toArray, List.getElem_cons_succ, List.getElem_cons_zero, List.setIfInBounds_toArray, List.set_cons_zero, List.set_cons_succ]
  refine wpAnyH_take (i := 12) (v := .int .i64 0) rfl (by kernel_rfl) (by kernel_rfl) (by kernel_rfl) (fun _ _ _ h => h) (Or.inl ⟨by rfl, fun w hSw => by go_simp⟩) hS ?_
  simp only [Act.put, List.getElem_toArray, List.getElem_cons_succ, List.getElem_cons_zero, List.setIfInBounds_toArray, List.set_cons_zero, List.set_cons_succ]
  refine wpAnyH_take (i := 13) (v := .bool true) rfl (by kernel_rfl) (by kernel_rfl) (by kernel_rfl) (fun _ _ _ h => h) (Or.inl ⟨by rfl, fun w hSw => by go_simp⟩) hS ?_
  simp only [Act.put, List.getElem_toArray, List.getElem_cons_succ, List.getElem_cons_zero, List.setIfInBounds_toArray, List.set_cons_zero, List.set_cons_succ]
  refine wpAnyH_take (i := 14) (v := .bool true) rfl (by kernel_rfl) (by kernel_rfl) (by kernel_rfl) (fun _ _ _ h => h) (Or.inl ⟨by rfl, fun w hSw => by go_simp⟩) hS ?_
  simp only [Act.put, List.getElem_toArray, List.getElem_cons_succ, List.getElem_cons_zero, List.setIfInBounds_toArray, List.set_cons_zero, List.set_cons_succ]
  refine wpAnyH_take (i := 15) (v := .bool true) rfl (by kernel_rfl) (by kernel_rfl) (by kernel_rfl) (fun _ _ _ h => h) (Or.inl ⟨by rfl, fun w hSw => by go_simp⟩) hS ?_
  simp only [Act.put, List.getElem_toArray, List.getElem_cons_succ, List.getElem_cons_zero, List.setIfInBounds_toArray, List.set_cons_zero, List.set_cons_succ]
  refine wpAnyH_take (i := 16) (v := .string t2) rfl (by kernel_rfl) (by kernel_rfl) (by kernel_rfl) (fun _ _ _ h => h) (Or.inl ⟨by rfl, fun w hSw => by go_simp⟩) hS ?_
  simp only [Act.put, List.getElem_toArray, List.getElem_cons_succ, List.getElem_cons_zero, List.setIfInBounds_toArray, List.set_cons_zero, List.set_cons_succ]
  refine wpAnyH_take (i := 17) (v := .int .i64 44) rfl (by kernel_rfl) (by kernel_rfl) (by kernel_rfl) (fun _ _ _ h => h) (Or.inl ⟨by rfl, fun w hSw => by go_simp⟩) hS ?_
  simp only [Act.put, List.getElem_toArray, List.getElem_cons_succ, List.getElem_cons_zero, List.setIfInBounds_toArray, List.set_cons_zero, List.set_cons_succ]
  refine wpAnyH_take (i := 18) (v := .bool true) rfl (by kernel_rfl) (by kernel_rfl) (by kernel_rfl) (fun _ _ _ h => h) (Or.inl ⟨by rfl, fun w hSw => by go_simp⟩) hS ?_
  simp only [Act.put, List.getElem_toArray, List.getElem_cons_succ, List.getElem_cons_zero, List.setIfInBounds_toArray, List.set_cons_zero, List.set_cons_succ]
  refine wpAnyH_take (i := 19) (v := .bool true) rfl (by kernel_rfl) (by kernel_rfl) (by kernel_rfl) (fun _ _ _ h => h) (Or.inl ⟨by rfl, fun w hSw => by go_simp⟩) hS ?_
  simp only [Act.put, List.getElem_toArray, List.getElem_cons_succ, List.getElem_cons_zero, List.setIfInBounds_toArray, List.set_cons_zero, List.set_cons_succ]
  refine wpAnyH_take (i := 20) (v := .bool true) rfl (by kernel_rfl) (by kernel_rfl) (by kernel_rfl) (fun _ _ _ h => h) (Or.inl ⟨by rfl, fun w hSw => by go_simp⟩) hS ?_
  simp only [Act.put, List.getElem_toArray, List.getElem_cons_succ, List.getElem_cons_zero, List.setIfInBounds_toArray, List.set_cons_zero, List.set_cons_succ]
  refine wpAnyH_take (i := 21) (v := .string t2) rfl (by kernel_rfl) (by kernel_rfl) (by kernel_rfl) (fun _ _ _ h => h) (Or.inl ⟨by rfl, fun w hSw => by go_simp⟩) hS ?_
  simp only [Act.put, List.getElem_toArray, List.getElem_cons_succ, List.getElem_cons_zero, List.setIfInBounds_toArray, List.set_cons_zero, List.set_cons_succ]
  refine wpAnyH_take (i := 22) (v := .int .u8 0) rfl (by kernel_rfl) (by kernel_rfl) (by kernel_rfl) (fun _ _ _ h => h) (Or.inl ⟨by rfl, fun w hSw => by go_simp⟩) hS ?_
  simp only [Act.put, List.getElem_toArray, List.getElem_cons_succ, List.getElem_cons_zero, List.setIfInBounds_toArray, List.set_cons_zero, List.set_cons_succ]
  refine wpAnyH_take (i := 23) (v := .bool true) rfl (by kernel_rfl) (by kernel_rfl) (by kernel_rfl) (fun _ _ _ h => h) (Or.inl ⟨by rfl, fun w hSw => by go_simp⟩) hS ?_
  simp only [Act.put, List.getElem_toArray, List.getElem_cons_succ, List.getElem_cons_zero, List.setIfInBounds_toArray, List.set_cons_zero, List.set_cons_succ]
  refine wpAnyH_take (i := 24) (v := .bool true) rfl (by kernel_rfl) (by kernel_rfl) (by kernel_rfl) (fun _ _ _ h => h) (Or.inl ⟨by rfl, fun w hSw => by go_simp⟩) hS ?_
  simp only [Act.put, List.getElem_toArray, List.getElem_cons_succ, List.getElem_cons_zero, List.setIfInBounds_toArray, List.set_cons_zero, List.set_cons_succ]
  refine wpAnyH_take (i := 25) (v := .bool true) rfl (by kernel_rfl) (by kernel_rfl) (by kernel_rfl) (fun _ _ _ h => h) (Or.inl ⟨by rfl, fun w hSw => by go_simp⟩) hS ?_
  simp only [Act.put, List.getElem_toArray, List.getElem_cons_succ, List.getElem_cons_zero, List.setIfInBounds_toArray, List.set_cons_zero, List.set_cons_succ]
  refine wpAnyH_take (i := 26) (v := .string t2) rfl (by kernel_rfl) (by kernel_rfl) (by kernel_rfl) (fun _ _ _ h => h) (Or.inl ⟨by rfl, fun w hSw => by go_simp⟩) hS ?_
  simp only [Act.put, List.getElem_toArray, List.getElem_cons_succ, List.getElem_cons_zero, List.setIfInBounds_toArray, List.set_cons_zero, List.set_cons_succ]
  refine wpAnyH_take (i := 27) (v := .int .u8 129) rfl (by kernel_rfl) (by kernel_rfl) (by kernel_rfl) (fun _ _ _ h => h) (Or.inl ⟨by rfl, fun w hSw => by go_simp⟩) hS ?_
  simp only [Act.put, List.getElem_toArray, List.getElem_cons_succ, List.getElem_cons_zero, List.setIfInBounds_toArray, List.set_cons_zero, List.set_cons_succ]
  refine wpAnyH_take (i := 28) (v := .bool true) rfl (by kernel_rfl) (by kernel_rfl) (by kernel_rfl) (fun _ _ _ h => h) (Or.inl ⟨by rfl, fun w hSw => by go_simp⟩) hS ?_
  simp only [Act.put, List.getElem_toArray, List.getElem_cons_succ, List.getElem_cons_zero, List.setIfInBounds_toArray, List.set_cons_zero, List.set_cons_succ]
  refine wpAnyH_take (i := 29) (v := .bool true) rfl (by kernel_rfl) (by kernel_rfl) (by kernel_rfl) (fun _ _ _ h => h) (Or.inl ⟨by rfl, fun w hSw => by go_simp⟩) hS ?_
  simp only [Act.put, List.getElem_toArray, List.getElem_cons_succ, List.getElem_cons_zero, List.setIfInBounds_toArray, List.set_cons_zero, List.set_cons_succ]
  refine wpAnyH_take (i := 30) (v := .bool true) rfl (by kernel_rfl) (by kernel_rfl) (by kernel_rfl) (fun _ _ _ h => h) (Or.inl ⟨by rfl, fun w hSw => by go_simp⟩) hS ?_
  simp only [Act.put, List.getElem_toArray, List.getElem_cons_succ, List.getElem_cons_zero, List.setIfInBounds_toArray, List.set_cons_zero, List.set_cons_succ]
  refine wpAnyH_take (i := 31) (v := .int .i64 0) rfl (by kernel_rfl) (by kernel_rfl) (by kernel_rfl) (fun _ _ _ h => h) (Or.inl ⟨by rfl, fun w hSw => by go_simp⟩) hS ?_
  simp only [Act.put, List.getElem_toArray, List.getElem_cons_succ, List.getElem_cons_zero, List.setIfInBounds_toArray, List.set_cons_zero, List.set_cons_succ]
  refine wpAnyH_take (i := 32) (v := .bool true) rfl (by kernel_rfl) (by kernel_rfl) (by kernel_rfl) (fun _ _ _ h => h) (Or.inl ⟨by rfl, fun w hSw => by go_simp⟩) hS ?_
  simp only [Act.put, List.getElem_toArray, List.getElem_cons_succ, List.getElem_cons_zero, List.setIfInBounds_toArray, List.set_cons_zero, List.set_cons_succ]
  refine wpAnyH_take (i := 33) (v := .bool true) rfl (by kernel_rfl) (by kernel_rfl) (by kernel_rfl) (fun _ _ _ h => h) (Or.inl ⟨by rfl, fun w hSw => by go_simp⟩) hS ?_
  simp only [Act.put, List.getElem_toArray, List.getElem_cons_succ, List.getElem_cons_zero, List.setIfInBounds_toArray, List.set_cons_zero, List.set_cons_succ]
  refine wpAnyH_take (i := 34) (v := .bool true) rfl (by kernel_rfl) (by kernel_rfl) (by kernel_rfl) (fun _ _ _ h => h) (Or.inl ⟨by rfl, fun w hSw => by go_simp⟩) hS ?_
  simp only [Act.put, List.getElem_toArray, List.getElem_cons_succ, List.getElem_cons_zero, List.setIfInBounds_toArray, List.set_cons_zero, List.set_cons_succ]
  refine wpAnyH_take (i := 35) (v := .int .i64 44) rfl (by kernel_rfl) (by kernel_rfl) (by kernel_rfl) (fun _ _ _ h => h) (Or.inl ⟨by rfl, fun w hSw => by go_simp⟩) hS ?_
  simp only [Act.put, List.getElem_toArray, List.getElem_cons_succ, List.getElem_cons_zero, List.setIfInBounds_toArray, List.set_cons_zero, List.set_cons_succ]
  refine wpAnyH_take (i := 36) (v := .bool true) rfl (by kernel_rfl) (by kernel_rfl) (by kernel_rfl) (fun _ _ _ h => h) (Or.inl ⟨by rfl, fun w hSw => by go_simp⟩) hS ?_
  simp only [Act.put, List.getElem_toArray, List.getElem_cons_succ, List.getElem_cons_zero, List.setIfInBounds_toArray, List.set_cons_zero, List.set_cons_succ]
  refine wpAnyH_take (i := 37) (v := .bool true) rfl (by kernel_rfl) (by kernel_rfl) (by kernel_rfl) (fun _ _ _ h => h) (Or.inl ⟨by rfl, fun w hSw => by go_simp⟩) hS ?_
  simp only [Act.put, List.getElem_toArray, List.getElem_cons_succ, List.getElem_cons_zero, List.setIfInBounds_toArray, List.set_cons_zero, List.set_cons_succ]
  refine wpAnyH_take (i := 38) (v := .bool true) rfl (by kernel_rfl) (by kernel_rfl) (by kernel_rfl) (fun _ _ _ h => h) (Or.inl ⟨by rfl, fun w hSw => by go_simp⟩) hS ?_
  simp only [Act.put, List.getElem_toArray, List.getElem_cons_succ, List.getElem_cons_zero, List.setIfInBounds_toArray, List.set_cons_zero, List.set_cons_succ]
  refine wpAnyH_take (i := 39) (v := .slice (some ⟨g3 + 1, 0, none⟩) 2 2) rfl (by kernel_rfl) (by kernel_rfl) (by kernel_rfl) (fun _ _ _ h => h) (Or.inl ⟨by rfl, fun w hSw => by go_simp⟩) hS ?_
  simp only [Act.put, List.getElem_toArray, List.getElem_cons_succ, List.getElem_cons_zero, List.setIfInBounds_toArray, List.set_cons_zero, List.set_cons_succ]
  refine wpAnyH_take (i := 40) (v := .slice ao 2 cap) rfl (by kernel_rfl) (by kernel_rfl) (by kernel_rfl) (fun _ _ _ h => h) (Or.inl ⟨by rfl, fun w hSw => by go_simp⟩) hS ?_
  simp only [Act.put, List.getElem_toArray, List.getElem_cons_succ, List.getElem_cons_zero, List.setIfInBounds_toArray, List.set_cons_zero, List.set_cons_succ]
  refine wpAnyH_ready (rs := [41]) (by kernel_rfl) (by simp) ?_
  refine AllReadyH.cons rfl (fun K hK => ?_) AllReadyH.nil
  go_simp
  refine (KS2.out _ hS).mono ?_
  rintro en wb ⟨rfl, h4⟩
  refine hK.out _ _ h4 (fun hS => ?_)
  clear hK K h4
  refine wpAnyH_take (i := 42) (v := .bool true) rfl (by kernel_rfl) (by kernel_rfl) (by kernel_rfl) (fun _ _ _ h => h) (Or.inl ⟨by rfl, fun w hSw => by go_simp⟩) hS ?_
  simp only [Act.put, List.getElem_toArray, List.getElem_cons_succ, List.getElem_cons_zero, List.setIfInBounds_toArray, List.set_cons_zero, List.set_cons_succ]
  refine wpAnyH_take (i := 43) (v := .bool true) rfl (by kernel_rfl) (by kernel_rfl) (by kernel_rfl) (fun _ _ _ h => h) (Or.inl ⟨by rfl, fun w hSw => by go_simp⟩) hS ?_
  simp only [Act.put, List.getElem_toArray, List.getElem_cons_succ, List.getElem_cons_zero, List.setIfInBounds_toArray, List.set_cons_zero, List.set_cons_succ]
  refine wpAnyH_take (i := 44) (v := .int .i64 0) rfl (by kernel_rfl) (by kernel_rfl) (by kernel_rfl) (fun _ _ _ h => h) (Or.inl ⟨by rfl, fun w hSw => by go_simp⟩) hS ?_
  simp only [Act.put, List.getElem_toArray, List.getElem_cons_succ, List.getElem_cons_zero, List.setIfInBounds_toArray, List.set_cons_zero, List.set_cons_succ]
  refine wpAnyH_take (i := 45) (v := .bool true) rfl (by kernel_rfl) (by kernel_rfl) (by kernel_rfl) (fun _ _ _ h => h) (Or.inl ⟨by rfl, fun w hSw => by go_simp⟩) hS ?_
  simp only [Act.put, List.getElem_toArray, List.getElem_cons_succ, List.getElem_cons_zero, List.setIfInBounds_toArray, List.set_cons_zero, List.set_cons_succ]
  refine wpAnyH_take (i := 46) (v := .bool true) rfl (by kernel_rfl) (by kernel_rfl) (by kernel_rfl) (fun _ _ _ h => h) (Or.inl ⟨by rfl, fun w hSw => by go_simp⟩) hS ?_
  simp only [Act.put, List.getElem_toArray, List.getElem_cons_succ, List.getElem_cons_zero, List.setIfInBounds_toArray, List.set_cons_zero, List.set_cons_succ]
  refine wpAnyH_take (i := 47) (v := .bool true) rfl (by kernel_rfl) (by kernel_rfl) (by kernel_rfl) (fun _ _ _ h => h) (Or.inl ⟨by rfl, fun w hSw => by go_simp⟩) hS ?_
  simp only [Act.put, List.getElem_toArray, List.getElem_cons_succ, List.getElem_cons_zero, List.setIfInBounds_toArray, List.set_cons_zero, List.set_cons_succ]
  refine wpAnyH_take (i := 48) (v := .agg #[.int .i64 127, .string ⟨#[]⟩]) rfl (by kernel_rfl) (by kernel_rfl) (by kernel_rfl) (fun _ _ _ h => h) (Or.inl ⟨by rfl, fun w hSw => by go_simp⟩) hS ?_
  simp only [Act.put, List.getElem_toArray, List.getElem_cons_succ, List.getElem_cons_zero, List.setIfInBounds_toArray, List.set_cons_zero, List.set_cons_succ]
  refine wpAnyH_ready (rs := [49]) (by kernel_rfl) (by simp) ?_
  refine AllReadyH.cons rfl (fun K hK => ?_) AllReadyH.nil
  go_simp
  refine (KC1.out _ hS).mono ?_
  rintro en wc ⟨rfl, h4⟩
  refine hK.out _ _ h4 (fun hS => ?_)
  clear hK K h4
  refine wpAnyH_take (i := 50) (v := .bool true) rfl (by kernel_rfl) (by kernel_rfl) (by kernel_rfl) (fun _ _ _ h => h) (Or.inl ⟨by rfl, fun w hSw => by go_simp⟩) hS ?_
  simp only [Act.put, List.getElem_toArray, List.getElem_cons_succ, List.getElem_cons_zero, List.setIfInBounds_toArray, List.set_cons_zero, List.set_cons_succ]
  refine wpAnyH_take (i := 51) (v := .bool true) rfl (by kernel_rfl) (by kernel_rfl) (by kernel_rfl) (fun _ _ _ h => h) (Or.inl ⟨by rfl, fun w hSw => by go_simp⟩) hS ?_
  simp only [Act.put, List.getElem_toArray, List.getElem_cons_succ, List.getElem_cons_zero, List.setIfInBounds_toArray, List.set_cons_zero, List.set_cons_succ]
  refine wpAnyH_take (i := 52) (v := .bool true) rfl (by kernel_rfl) (by kernel_rfl) (by kernel_rfl) (fun _ _ _ h => h) (Or.inl ⟨by rfl, fun w hSw => by go_simp⟩) hS ?_
  simp only [Act.put, List.getElem_toArray, List.getElem_cons_succ, List.getElem_cons_zero, List.setIfInBounds_toArray, List.set_cons_zero, List.set_cons_succ]
  refine wpAnyH_take (i := 53) (v := .agg #[.int .i64 3, .string ⟨#[120]⟩]) rfl (by kernel_rfl) (by kernel_rfl) (by kernel_rfl) (fun _ _ _ h => h) (Or.inl ⟨by rfl, fun w hSw => by go_simp⟩) hS ?_
  simp only [Act.put, List.getElem_toArray, List.getElem_cons_succ, List.getElem_cons_zero, List.setIfInBounds_toArray, List.set_cons_zero, List.set_cons_succ]
  refine wpAnyH_ready (rs := [54]) (by kernel_rfl) (by simp) ?_
  refine AllReadyH.cons rfl (fun K hK => ?_) AllReadyH.nil
  go_simp
  refine (KC2.out _ hS).mono ?_
  rintro en wd ⟨rfl, h4⟩
  refine hK.out _ _ h4 (fun hS => ?_)
  clear hK K h4
  refine wpAnyH_take (i := 55) (v := .bool true) rfl (by kernel_rfl) (by kernel_rfl) (by kernel_rfl) (fun _ _ _ h => h) (Or.inl ⟨by rfl, fun w hSw => by go_simp⟩) hS ?_
  simp only [Act.put, List.getElem_toArray, List.getElem_cons_succ, List.getElem_cons_zero, List.setIfInBounds_toArray, List.set_cons_zero, List.set_cons_succ]
  refine wpAnyH_take (i := 56) (v := .bool true) rfl (by kernel_rfl) (by kernel_rfl) (by kernel_rfl) (fun _ _ _ h => h) (Or.inl ⟨by rfl, fun w hSw => by go_simp⟩) hS ?_
  simp only [Act.put, List.getElem_toArray, List.getElem_cons_succ, List.getElem_cons_zero, List.setIfInBounds_toArray, List.set_cons_zero, List.set_cons_succ]
  refine wpAnyH_take (i := 57) (v := .bool true) rfl (by kernel_rfl) (by kernel_rfl) (by kernel_rfl) (fun _ _ _ h => h) (Or.inl ⟨by rfl, fun w hSw => by go_simp⟩) hS ?_
  simp only [Act.put, List.getElem_toArray, List.getElem_cons_succ, List.getElem_cons_zero, List.setIfInBounds_toArray, List.set_cons_zero, List.set_cons_succ]
  refine wpAnyH_done (by kernel_rfl) ?_ _
  go_wp2_with fail
  go_ret
  exact ⟨rfl, hS.out.1.bl⟩

end Go.Proofs.YtfmpiidnemhijaaDoor
