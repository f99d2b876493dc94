/- Own text: the walks of LayInfo and Check. -/
import Derived.Test.YtfmpiidnemhijaaDoorQ13lay
namespace Go.Proofs.YtfmpiidnemhijaaDoor
open Go.RowKit
set_option linter.unusedSimpArgs false
set_option linter.unusedVariables false

def LayE (i : Sti) (e : Ending) : Prop := (layOk i ∧ e = .returned (.tuple #[.string (numT i ++ i.dg), .int .i64 0])) ∨ (¬ layOk i ∧ e = .returned (.tuple #[.string ⟨#[]⟩, .int .i64 60]))
set_option maxRecDepth 20000 in
set_option maxHeartbeats 1600000 in
theorem layInfo_any (i : Sti) (hf : IFit i) (w : World) (hW : WidAt w) :
    Calls Tryd.prog 10 #[stiV i] w fun e w' => LayE i e ∧ Below w.heap.size w w' := by
  have hB0 : Below w.heap.size w (w.alloc (.cells (stiC i) 23)) := (Below.refl _ _).alloc (Nat.le_refl _) _
  have HZ : Hid ((w.alloc (.cells (stiC i) 23)).heap[w.heap.size]? = some (.cells (stiC i) 23 (0, 0)) ∧ Below w.heap.size w (w.alloc (.cells (stiC i) 23))) := ⟨heap_alloc_new _ _, hB0⟩
  have kn := layNumbers_any i hf _ (hW.below hB0)
  have kf := fun wx => fault_any i wx
  have hdg := hf.dg
  have HC : Hid (∀ wx : World, wx.heap[w.heap.size]? = some (.cells (stiC i) 23 (0, 0)) → wx.cell? ⟨w.heap.size, 0, none⟩ = some (.int .i64 i.mn) ∧ wx.cell? ⟨w.heap.size, 1, none⟩ = some (.int .i64 i.mx) ∧ wx.cell? ⟨w.heap.size, 2, none⟩ = some (.int .i64 i.mf) ∧ wx.cell? ⟨w.heap.size, 3, none⟩ = some (.int .i64 i.xf) ∧ wx.cell? ⟨w.heap.size, 4, none⟩ = some (.int .i64 i.rt) ∧ wx.cell? ⟨w.heap.size, 5, none⟩ = some (.int .i64 i.ch) ∧ wx.cell? ⟨w.heap.size, 6, none⟩ = some (.int .i64 i.wd) ∧ wx.cell? ⟨w.heap.size, 7, none⟩ = some (.int .i64 i.sm) ∧ wx.cell? ⟨w.heap.size, 8, none⟩ = some (.string i.dg)) := fun wx h => sti_cells h
  have hnt := numT_size i
  clear hf hW hB0
  go_enter Tryd.func10, Tryd.ntmps10
  go_wp2_with fail
  refine kn.mono ?_
  rintro e w1 ⟨h, hb1⟩
  have HZ1 : Hid (w1.heap[w.heap.size]? = some (.cells (stiC i) 23 (0, 0)) ∧ Below w.heap.size w w1) := ⟨by rw [hb1.block _ (lt_of_block HZ.out.1)]; exact HZ.out.1, HZ.out.2.trans (hb1.mono HZ.out.2.size)⟩
  clear hb1 kn HZ
  obtain ⟨c0, c1, c2, c3, c4, c5, c6, c7, c8⟩ := HC.out w1 HZ1.out.1
  rcases h with ⟨hn, rfl⟩ | ⟨hn, rfl⟩
  · have HN : Hid (numsOk i) := hn
    clear hn
    generalize hT : numT i = T at *
    have HT : Hid (numT i = T) := hT
    clear hT
    by_cases h16 : i.dg.size = 16
    · have hq : ((i.dg.size : Int) != 16) = false := by rw [bne_eq_false_iff_eq]; omega
      have H16 : Hid (i.dg.size = 16) := h16
      clear h16
      by_cases h0 : fltE i = 0
      · have hq2 : (fltE i != 0) = false := by rw [bne_eq_false_iff_eq]; exact h0
        have HL : Hid (layOk i) := ⟨HN.out, H16.out, h0⟩
        generalize fltE i = E at *
        clear h0
        go_wp2_with fail
        refine (kf _).mono ?_
        rintro e w2 ⟨rfl, hb2⟩
        have HZ2 : Hid (w2.heap[w.heap.size]? = some (.cells (stiC i) 23 (0, 0)) ∧ Below w.heap.size w w2) := ⟨by rw [hb2.block _ (lt_of_block HZ1.out.1)]; exact HZ1.out.1, HZ1.out.2.trans (hb2.mono HZ1.out.2.size)⟩
        clear hb2 kf c0 c1 c2 c3 c4 c5 c6 c7 c8
        obtain ⟨c0, c1, c2, c3, c4, c5, c6, c7, c8⟩ := HC.out w2 HZ2.out.1
        go_wp2_with fail
        go_ret2
        exact ⟨.inl ⟨HL.out, by rw [HT.out]; rfl⟩, HZ2.out.2⟩
      · have hq2 : (fltE i != 0) = true := by rw [bne_iff_ne]; exact h0
        have HL : Hid (¬ layOk i) := fun h => h0 h.2.2
        generalize fltE i = E at *
        clear h0
        go_wp2_with fail
        refine (kf _).mono ?_
        rintro e w2 ⟨rfl, hb2⟩
        have HB2 : Hid (Below w.heap.size w w2) := HZ1.out.2.trans (hb2.mono HZ1.out.2.size)
        clear hb2 kf c0 c1 c2 c3 c4 c5 c6 c7 c8
        go_wp2_with fail
        go_ret2
        exact ⟨.inr ⟨HL.out, rfl⟩, HB2.out⟩
    · have hq : ((i.dg.size : Int) != 16) = true := by rw [bne_iff_ne]; omega
      have HL : Hid (¬ layOk i) := fun h => h16 h.2.1
      clear h16
      go_wp2_with fail
      go_ret2
      exact ⟨.inr ⟨HL.out, rfl⟩, HZ1.out.2⟩
  · have HL : Hid (¬ layOk i) := fun h => hn h.1
    clear hn
    go_wp2_with fail
    go_ret2
    exact ⟨.inr ⟨HL.out, rfl⟩, HZ1.out.2⟩
theorem blk_cells {w : World} {g : Nat} {b : Blk} (h : w.heap[g]? = some (.cells (blkC b) 36 (0, 0))) : w.cell? ⟨g, 0, none⟩ = some (.int .i64 b.ty) ∧ w.cell? ⟨g, 1, none⟩ = some (.string b.body) := by
  refine ⟨?_, ?_⟩ <;> (rw [cell_of_row _ _ _ _ _ _ h]; rfl)
set_option maxRecDepth 20000 in
set_option maxHeartbeats 1600000 in
theorem check_any (b : Blk) (hs : b.body.size ≤ 140737488351232) (w : World) (hW : WidAt w) :
    Calls Tryd.prog 13 #[blkV b] w fun e w' => e = .returned (.int .i64 (chkE b)) ∧ Below w.heap.size w w' := by
  have hB0 : Below w.heap.size w (w.alloc (.cells (blkC b) 36)) := (Below.refl _ _).alloc (Nat.le_refl _) _
  have HZ : Hid ((w.alloc (.cells (blkC b) 36)).heap[w.heap.size]? = some (.cells (blkC b) 36 (0, 0)) ∧ Below w.heap.size w (w.alloc (.cells (blkC b) 36))) := ⟨heap_alloc_new _ _, hB0⟩
  have ki := info_any b.body hs _ (hW.below hB0)
  have kh := form_any b hs (w.alloc (.cells (blkC b) 36))
  have hE : chkE b = if b.ty < 0 ∨ 126 < b.ty ∨ 16777215 < b.body.size then 2 else if b.ty = 0 then infE b.body else if formB b then 0 else 2 := rfl
  clear hW hB0
  by_cases h1 : b.ty < 0 ∨ 126 < b.ty ∨ 16777215 < b.body.size
  · have HE : Hid (chkE b = 2) := hE.trans (if_pos h1)
    have h1 : b.ty < 0 ∨ (0 ≤ b.ty ∧ 126 < b.ty) ∨ (0 ≤ b.ty ∧ b.ty ≤ 126 ∧ (16777215 : Int) < (b.body.size : Int)) := by omega
    clear hE ki kh
    rcases h1 with h | ⟨h, h'⟩ | ⟨h, h', h''⟩
    all_goals
      go_enter Tryd.func13, Tryd.ntmps13
      go_wp2_with fail
      go_ret
      exact ⟨by rw [HE.out]; rfl, HZ.out.2⟩
  · rw [if_neg h1] at hE
    have a1 : 0 ≤ b.ty := by omega
    have a2 : b.ty ≤ 126 := by omega
    have a3 : (b.body.size : Int) ≤ 16777215 := by omega
    clear h1
    by_cases h0 : b.ty = 0
    · have HE : Hid (chkE b = infE b.body) := hE.trans (if_pos h0)
      have hq : (b.ty == 0) = true := by rw [beq_iff_eq]; exact h0
      generalize infE b.body = E at *
      generalize infR b.body = R at *
      clear hE kh h0
      go_enter Tryd.func13, Tryd.ntmps13
      go_wp2_with fail
      refine ki.mono ?_
      rintro e w2 ⟨rfl, hb2⟩
      have HB2 : Hid (Below w.heap.size w w2) := HZ.out.2.trans (hb2.mono HZ.out.2.size)
      clear hb2 ki
      go_wp2_with fail
      go_ret
      exact ⟨by rw [HE.out]; rfl, HB2.out.alloc HB2.out.size _⟩
    · rw [if_neg h0] at hE
      have hq : (b.ty == 0) = false := by rw [beq_eq_false_iff_ne]; exact h0
      have HE : Hid (chkE b = if formB b then 0 else 2) := hE
      clear hE ki h0
      cases hF : formB b
      · rw [hF] at kh
        have HE2 : Hid (chkE b = 2) := HE.out.trans (by rw [hF]; rfl)
        clear HE hF
        go_enter Tryd.func13, Tryd.ntmps13
        go_wp2_with fail
        refine kh.mono ?_
        rintro e w2 ⟨rfl, hb2⟩
        have HB2 : Hid (Below w.heap.size w w2) := HZ.out.2.trans (hb2.mono HZ.out.2.size)
        clear hb2 kh
        go_wp2_with fail
        go_ret
        exact ⟨by rw [HE2.out]; rfl, HB2.out⟩
      · rw [hF] at kh
        have HE2 : Hid (chkE b = 0) := HE.out.trans (by rw [hF]; rfl)
        clear HE hF
        go_enter Tryd.func13, Tryd.ntmps13
        go_wp2_with fail
        refine kh.mono ?_
        rintro e w2 ⟨rfl, hb2⟩
        have HB2 : Hid (Below w.heap.size w w2) := HZ.out.2.trans (hb2.mono HZ.out.2.size)
        clear hb2 kh
        go_wp2_with fail
        go_ret
        exact ⟨by rw [HE2.out]; rfl, HB2.out⟩

end Go.Proofs.YtfmpiidnemhijaaDoor
