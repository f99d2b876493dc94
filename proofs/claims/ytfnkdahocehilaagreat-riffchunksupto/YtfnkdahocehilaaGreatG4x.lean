/- Own text: the walk of the document's Check. the walk of the document's Fits. -/
import Derived.Test.YtfnkdahocehilaaGreatG3x
namespace Go.Proofs.YtfnkdahocehilaaGreat
open Go.RowKit
set_option linter.unusedSimpArgs false
set_option linter.unusedVariables false

/-- The i-th list and its cells, wherever memory has only grown. -/
theorem RowsAt.at {w0 : World} {ao : Option Addr} {xs : List (List Int)} (h : RowsAt w0 ao xs) (i : Nat) (hi : i < xs.length) :
    ∃ b off a c, ao = some ⟨b, off, none⟩ ∧ (xs.getD i []).length ≤ 17592186044415 ∧ (∀ w, Below w0.heap.size w0 w → w.cell? ⟨b, off + i, none⟩ = some (.slice a (xs.getD i []).length c)) ∧ IntsAt w0 a (xs.getD i []) := by
  obtain ⟨b, off, e, hc⟩ := h.lies (by omega)
  obtain ⟨a, c, h1, _, _, h2⟩ := hc i hi
  refine ⟨b, off, a, c, e, h2.len, fun w hw => ?_, h2⟩
  have h3 := lt_cell h1
  rw [← h1]
  exact World.cell?_of_block (w := w0) (hw.block b h3)
theorem RowsAt.at2 {w0 : World} {ao : Option Addr} {xs : List (List Int)} (h : RowsAt w0 ao xs) (i : Nat) (hi : i < xs.length) :
    ∃ b off a c, ao = some ⟨b, off, none⟩ ∧ (xs.getD i []).length ≤ c ∧ (a = none → c = 0) ∧ (∀ w, Below w0.heap.size w0 w → w.cell? ⟨b, off + i, none⟩ = some (.slice a (xs.getD i []).length c)) ∧ IntsAt w0 a (xs.getD i []) := by
  obtain ⟨b, off, e, hc⟩ := h.lies (by omega)
  obtain ⟨a, c, h1, h5, h6, h2⟩ := hc i hi
  refine ⟨b, off, a, c, e, h5, h6, fun w hw => ?_, h2⟩
  have h3 := lt_cell h1
  rw [← h1]
  exact World.cell?_of_block (w := w0) (hw.block b h3)
theorem IntsAt.at {w0 : World} {a : Option Addr} {l : List Int} (h : IntsAt w0 a l) (k : Nat) (hk : k < l.length) :
    ∃ b off, a = some ⟨b, off, none⟩ ∧ (∀ w, Below w0.heap.size w0 w → w.cell? ⟨b, off + k, none⟩ = some (.int .i64 (l.getD k 0))) ∧ -9223372036854775808 ≤ l.getD k 0 ∧ l.getD k 0 ≤ 9223372036854775807 := by
  obtain ⟨b, off, e, hc⟩ := h.lies (by omega)
  have h1 := hc k hk
  refine ⟨b, off, e, fun w hw => ?_, ?_⟩
  · have h3 := lt_cell h1
    rw [← h1]
    exact World.cell?_of_block (w := w0) (hw.block b h3)
  · apply h.num
    rw [List.getD_eq_getElem?_getD, List.getElem?_eq_getElem hk]
    exact List.getElem_mem hk

set_option maxRecDepth 20000 in
set_option maxHeartbeats 3200000 in
theorem rcheck_yes (p : Pcm) (ao : Option Addr) (cap : Nat) (w : World) (hr : RowsAt w ao p.pl) (hh : headB p = true) :
    Calls Tryz.prog 76 #[pcmV p ao cap] w fun e w' => e = .returned (.int .i64 (checkN p)) ∧ Below w.heap.size w w' := by
  have hl := hr.len
  obtain ⟨r1, r2, c1, c2, w1, w2, hlen⟩ := head_parts p hh
  have HH : Hid (headB p = true) := hh
  have HR : Hid (RowsAt w ao p.pl) := hr
  have KL : Hid (∀ wx, Hid (Bx w p ao cap wx) → Calls Tryz.prog 104 #[pcmV p ao cap] wx fun e w' => e = .returned (.int .i64 (lenP p : Int)) ∧ Hid (Bx w p ao cap w')) := fun wx hx =>
    (rlen_spec p ao cap wx (hr.below hx.out.below)).mono fun e w' h => ⟨h.1, hx.out.next h.2⟩
  have HB0 : Hid (Bx w p ao cap (w.alloc (.cells (pcmC p ao cap) 37))) := Bx.new w p ao cap
  have hlp : lenP p ≤ 17592186044415 := by
    obtain ⟨_, _, _, _, _, h1, _, _⟩ := hr.at 0 (by omega)
    exact h1
  clear hr hh
  go_enter Tryz.func76, Tryz.ntmps76
  go_wp2_with fail
  generalize hwa : w.alloc _ = wa
  have HA : Hid (Bx w p ao cap wa) := by
    rw [← hwa]
    exact HB0.out
  clear hwa HB0
  go_loopw [3] (fun t wr => ∃ i : Nat, i ≤ p.pl.length ∧ t = .int .i64 (i : Int) ∧ (∀ j, j < i → planeB p (p.pl.getD j []) = true) ∧ Bx w p ao cap wr) (fun t _ => p.pl.length - (intOf t).toNat)
  case atStart => exact ⟨0, Nat.zero_le _, rfl, fun j hj => absurd hj (Nat.not_lt_zero _), HA.out⟩
  case round =>
    clear HA
    obtain ⟨i, hi, rfl, hok, hbx⟩ := hrel
    have HO : Hid (∀ j, j < i → planeB p (p.pl.getD j []) = true) := hok
    have HB : Hid (Bx w p ao cap wr) := hbx
    clear hok hbx
    have d1 := HB.out.c1
    have d2 := HB.out.c2
    have d3 := HB.out.c3
    by_cases hlt : i < p.pl.length
    · obtain ⟨b, off, a, c, rfl, hll, hcell, hints⟩ := HR.out.at i hlt
      have hc0 := hcell wr HB.out.below
      have HC : Hid (∀ wx, Hid (Bx w p (some ⟨b, off, none⟩) cap wx) → Hid (Bx w p (some ⟨b, off, none⟩) cap wx) ∧ wx.cell? ⟨w.heap.size, 0, none⟩ = some (.int .i64 p.rate) ∧ wx.cell? ⟨w.heap.size, 1, none⟩ = some (.int .i64 p.ch) ∧ wx.cell? ⟨w.heap.size, 2, none⟩ = some (.int .i64 p.wd) ∧ wx.cell? ⟨w.heap.size, 3, none⟩ = some (.slice (some ⟨b, off, none⟩) p.pl.length cap) ∧ wx.cell? ⟨b, off + i, none⟩ = some (.slice a (p.pl.getD i []).length c)) := fun wx hx =>
        ⟨hx, hx.out.c0, hx.out.c1, hx.out.c2, hx.out.c3, hcell wx hx.out.below⟩
      have HCL : Hid (∀ wx, Below w.heap.size w wx → wx.cell? ⟨b, off + i, none⟩ = some (.slice a (p.pl.getD i []).length c)) := hcell
      have HIN : Hid (IntsAt w a (p.pl.getD i [])) := hints
      have HD : Hid (Bx w p (some ⟨b, off, none⟩) cap wr.drew) := HB.out.next ⟨rfl, rfl, rfl, Nat.le_refl _, fun _ _ => rfl⟩
      clear hcell hints
      have HPL : Hid (planeB p (p.pl.getD i []) = false → checkN p = 50) := fun h => check_plane p i hlt h
      have HLE : Hid (¬ (p.pl.getD i []).length = lenP p → planeB p (p.pl.getD i []) = false) := plane_len p _
      have HPS : Hid (∀ k, k < (p.pl.getD i []).length → sampB ((p.pl.getD i []).getD k 0) p.wd = false → planeB p (p.pl.getD i []) = false) := fun k hk h => plane_samp p _ k hk h
      have HPA : Hid ((p.pl.getD i []).length = lenP p → (∀ k, k < (p.pl.getD i []).length → sampB ((p.pl.getD i []).getD k 0) p.wd = true) → planeB p (p.pl.getD i []) = true) := plane_all p _
      generalize hL : p.pl.getD i [] = L at *
      by_cases hne : L.length = lenP p
      · have hdn : ((L.length : Int) == (lenP p : Int)) = true := by rw [hne]; exact beq_self_eq_true _
        go_wp2_with fail
        go_region_held (fun wx => Hid (Bx w p (some ⟨b, off, none⟩) cap wx) ∧ wx.cell? ⟨w.heap.size, 0, none⟩ = some (.int .i64 p.rate) ∧ wx.cell? ⟨w.heap.size, 1, none⟩ = some (.int .i64 p.ch) ∧ wx.cell? ⟨w.heap.size, 2, none⟩ = some (.int .i64 p.wd) ∧ wx.cell? ⟨w.heap.size, 3, none⟩ = some (.slice (some ⟨b, off, none⟩) p.pl.length cap) ∧ wx.cell? ⟨b, off + i, none⟩ = some (.slice a L.length c)) (exact HC.out _ (by assumption))
          (first | (go_at_call 104; refine (KL.out _ ?_).mono ?_; (first | assumption | exact (by assumption : _ ∧ _).1); rintro e w4 ⟨rfl, h4⟩))
        rename_i hX
        have HX := hX.1
        clear hX
        go_wp2_with fail
        go_loopw [4] (fun t wr' => ∃ k : Nat, k ≤ L.length ∧ t = .int .i64 (k : Int) ∧ (∀ j, j < k → sampB (L.getD j 0) p.wd = true) ∧ Bx w p (some ⟨b, off, none⟩) cap wr') (fun t _ => L.length - (intOf t).toNat)
        case atStart => exact ⟨0, Nat.zero_le _, rfl, fun j hj => absurd hj (Nat.not_lt_zero _), HX.out⟩
        case round =>
          clear HX
          obtain ⟨k, hk, rfl, hsok, hbx⟩ := hrel
          have HSO : Hid (∀ j, j < k → sampB (L.getD j 0) p.wd = true) := hsok
          have HB2 : Hid (Bx w p (some ⟨b, off, none⟩) cap wr) := hbx
          clear hsok hbx
          have e2 := HB2.out.c2
          have e3 := HB2.out.c3
          have ec := HCL.out wr HB2.out.below
          by_cases hkl : k < L.length
          · obtain ⟨b2, off2, rfl, hcell2, hn1, hn2⟩ := HIN.out.at k hkl
            have ek := hcell2 wr HB2.out.below
            have ks := rsample_spec (L.getD k 0) p.wd w1 w2
            have HPK := HPS.out k hkl
            clear hcell2
            generalize hX : L.getD k 0 = X at *
            cases hsb : sampB X p.wd with
            | true =>
              rw [hsb] at ks
              have HSX : Hid (sampB (L.getD k 0) p.wd = true) := by rw [hX]; exact hsb
              clear HPK hX hsb
              go_wp2_with fail
              go_quiet ((go_at_call 91; exact Calls.quiet_of_same (ks _)))
              go_wp2_with fail
              go_roundw
              case rel =>
                refine ⟨k + 1, by omega, by go_num, fun j hj => ?_, HB2.out.drewN _⟩
                by_cases e : j = k
                · rw [e]
                  exact HSX.out
                · exact HSO.out j (by omega)
              case measure => simp [intOf]; omega
            | false =>
              rw [hsb] at ks
              have HF : Hid (checkN p = 50) := HPL.out (HPK hsb)
              clear HPK hX hsb
              go_wp2_with fail
              go_quiet ((go_at_call 91; exact Calls.quiet_of_same (ks _)))
              go_wp2_with fail
              go_ret
              exact ⟨by rw [HF.out]; rfl, (HB2.out.drewN _).below⟩
          · have HOK : Hid (planeB p L = true) := HPA.out hne (fun j hj => HSO.out j (by omega))
            go_wp2_with fail
            go_roundw
            case rel =>
              refine ⟨i + 1, by omega, by go_num, fun j hj => ?_, HB2.out⟩
              by_cases e : j = i
              · rw [e, hL]
                exact HOK.out
              · exact HO.out j (by omega)
            case measure => simp [intOf]; omega
      · have HF : Hid (checkN p = 50) := HPL.out (HLE.out hne)
        have hdn : ((L.length : Int) == (lenP p : Int)) = false := by
          rw [beq_eq_false_iff_ne]
          omega
        go_wp2_with fail
        go_region_held (fun wx => Hid (Bx w p (some ⟨b, off, none⟩) cap wx) ∧ wx.cell? ⟨w.heap.size, 0, none⟩ = some (.int .i64 p.rate) ∧ wx.cell? ⟨w.heap.size, 1, none⟩ = some (.int .i64 p.ch) ∧ wx.cell? ⟨w.heap.size, 2, none⟩ = some (.int .i64 p.wd) ∧ wx.cell? ⟨w.heap.size, 3, none⟩ = some (.slice (some ⟨b, off, none⟩) p.pl.length cap) ∧ wx.cell? ⟨b, off + i, none⟩ = some (.slice a L.length c)) (exact HC.out _ (by assumption))
          (first | (go_at_call 104; refine (KL.out _ ?_).mono ?_; (first | assumption | exact (by assumption : _ ∧ _).1); rintro e w4 ⟨rfl, h4⟩))
        rename_i hX
        have HX := hX.1
        clear hX
        go_wp2_with fail
        go_ret
        exact ⟨by rw [HF.out]; rfl, HX.out.below⟩
    · have hcn := check_all p HH.out (fun j hj => HO.out j (by omega))
      have d0 := HB.out.c0
      have kl := KL.out wr HB
      by_cases hbig : 1048576 < lenP p
      · rw [if_pos hbig] at hcn
        have HF : Hid (checkN p = 5) := hcn
        clear hcn
        go_wp2_with fail
        refine kl.mono ?_
        rintro e w4 ⟨rfl, h4⟩
        go_wp2
        go_ret
        exact ⟨by rw [HF.out]; rfl, h4.out.below⟩
      · rw [if_neg hbig] at hcn
        have HF : Hid (checkN p = 0) := hcn
        clear hcn
        go_wp2_with fail
        refine kl.mono ?_
        rintro e w4 ⟨rfl, h4⟩
        go_wp2
        go_ret
        exact ⟨by rw [HF.out]; rfl, h4.out.below⟩

theorem rcheck_spec (p : Pcm) (ao : Option Addr) (cap : Nat) (w : World) (hr : RowsAt w ao p.pl) :
    Calls Tryz.prog 76 #[pcmV p ao cap] w fun e w' => e = .returned (.int .i64 (checkN p)) ∧ Below w.heap.size w w' := by
  cases hh : headB p with
  | true => exact rcheck_yes p ao cap w hr hh
  | false =>
    rw [check_head p hh]
    exact rcheck_no p ao cap w hr hh

end Go.Proofs.YtfnkdahocehilaaGreat

namespace Go.Proofs.YtfnkdahocehilaaGreat
open Go.RowKit
set_option linter.unusedSimpArgs false
set_option linter.unusedVariables false

theorem check_zero (p : Pcm) (h : checkN p = 0) : headB p = true ∧ lenP p ≤ 1048576 ∧ ∀ i, i < p.pl.length → planeB p (p.pl.getD i []) = true := by
  unfold checkN at h
  cases hb : headB p && p.pl.all (planeB p) with
  | false => rw [hb] at h; cases h
  | true =>
    rw [hb] at h
    obtain ⟨h1, h2⟩ := Bool.and_eq_true_iff.1 hb
    refine ⟨h1, ?_, fun i hi => ?_⟩
    · by_cases hl : 1048576 < lenP p
      · rw [if_pos rfl, if_pos hl] at h
        cases h
      · omega
    · rw [List.all_eq_true] at h2
      apply h2
      rw [List.getD_eq_getElem?_getD, List.getElem?_eq_getElem hi]
      exact List.getElem_mem hi

theorem checkN_three (p : Pcm) : checkN p = 0 ∨ checkN p = 5 ∨ checkN p = 50 := by
  unfold checkN
  split
  · split
    · exact .inr (.inl rfl)
    · exact .inl rfl
  · exact .inr (.inr rfl)

set_option maxRecDepth 20000 in
set_option maxHeartbeats 3200000 in
theorem rfits_spec (f : Int) (p : Pcm) (ao : Option Addr) (cap : Nat) (w : World) (hr : RowsAt w ao p.pl) :
    Calls Tryz.prog 41 #[.int .i64 f, pcmV p ao cap] w fun e w' => e = .returned (.int .i64 (fitsN f p)) ∧ Below w.heap.size w w' := by
  have HB0 : Hid (Bx w p ao cap (w.alloc (.cells (pcmC p ao cap) 37))) := Bx.new w p ao cap
  have KC : Hid (∀ wx, Hid (Bx w p ao cap wx) → Calls Tryz.prog 76 #[pcmV p ao cap] wx fun e w' => e = .returned (.int .i64 (checkN p)) ∧ Hid (Bx w p ao cap w')) := fun wx hx =>
    (rcheck_spec p ao cap wx (hr.below hx.out.below)).mono fun e w' h => ⟨h.1, hx.out.next h.2⟩
  clear hr
  by_cases h1 : f < 1
  · have HF : Hid (fitsN f p = 1) := by
      show _ = _
      unfold fitsN formatB
      rw [decide_eq_false (by omega)]
      rfl
    go_enter Tryz.func41, Tryz.ntmps41
    go_wp2
    go_ret
    exact ⟨by rw [HF.out]; rfl, HB0.out.below⟩
  · by_cases h5 : 5 < f
    · have HF : Hid (fitsN f p = 1) := by
        show _ = _
        unfold fitsN formatB
        rw [decide_eq_false (by omega)]
        rfl
      go_enter Tryz.func41, Tryz.ntmps41
      go_wp2
      go_ret
      exact ⟨by rw [HF.out]; rfl, HB0.out.below⟩
    · have hfb : formatB f = true := decide_eq_true (by omega)
      by_cases hc : checkN p = 0
      · obtain ⟨hh, _, _⟩ := check_zero p hc
        obtain ⟨_, _, _, _, w1, w2, _⟩ := head_parts p hh
        have HF : Hid (fitsN f p = if fitB f p.wd then 0 else 4) := by
          show _ = _
          unfold fitsN
          rw [hfb, if_pos hc]
          rfl
        rw [hc] at KC
        clear hh hfb hc
        have hcases : f = 1 ∨ f = 2 ∨ f = 3 ∨ f = 4 ∨ f = 5 := by omega
        rcases hcases with rfl | rfl | rfl | rfl | rfl
        · clear h1 h5
          by_cases hx : p.wd % 8 = 0
          · have hb : (p.wd % 8 == 0) = true := by rw [hx]; rfl
            have HG : Hid (fitB 1 p.wd = true) := decide_eq_true (by omega)
            go_enter Tryz.func41, Tryz.ntmps41
            go_wp2_with fail
            generalize hwa : w.alloc _ = wa
            have HA : Hid (Bx w p ao cap wa) := by
              rw [← hwa]
              exact HB0.out
            clear hwa HB0
            refine (KC.out wa HA).mono ?_
            rintro e w4 ⟨rfl, h4⟩
            have d2 := h4.out.c2
            go_wp2
            all_goals go_ret
            all_goals exact ⟨by rw [HF.out, HG.out]; rfl, h4.out.below⟩
          · have hb : (p.wd % 8 == 0) = false := beq_eq_false_iff_ne.2 hx
            have HG : Hid (fitB 1 p.wd = false) := decide_eq_false (by omega)
            go_enter Tryz.func41, Tryz.ntmps41
            go_wp2_with fail
            generalize hwa : w.alloc _ = wa
            have HA : Hid (Bx w p ao cap wa) := by
              rw [← hwa]
              exact HB0.out
            clear hwa HB0
            refine (KC.out wa HA).mono ?_
            rintro e w4 ⟨rfl, h4⟩
            have d2 := h4.out.c2
            go_wp2
            all_goals go_ret
            all_goals exact ⟨by rw [HF.out, HG.out]; rfl, h4.out.below⟩
        · clear h1 h5
          by_cases hx : p.wd % 8 = 0
          · have hb : (p.wd % 8 == 0) = true := by rw [hx]; rfl
            have HG : Hid (fitB 2 p.wd = true) := decide_eq_true (by omega)
            go_enter Tryz.func41, Tryz.ntmps41
            go_wp2_with fail
            generalize hwa : w.alloc _ = wa
            have HA : Hid (Bx w p ao cap wa) := by
              rw [← hwa]
              exact HB0.out
            clear hwa HB0
            refine (KC.out wa HA).mono ?_
            rintro e w4 ⟨rfl, h4⟩
            have d2 := h4.out.c2
            go_wp2
            all_goals go_ret
            all_goals exact ⟨by rw [HF.out, HG.out]; rfl, h4.out.below⟩
          · have hb : (p.wd % 8 == 0) = false := beq_eq_false_iff_ne.2 hx
            have HG : Hid (fitB 2 p.wd = false) := decide_eq_false (by omega)
            go_enter Tryz.func41, Tryz.ntmps41
            go_wp2_with fail
            generalize hwa : w.alloc _ = wa
            have HA : Hid (Bx w p ao cap wa) := by
              rw [← hwa]
              exact HB0.out
            clear hwa HB0
            refine (KC.out wa HA).mono ?_
            rintro e w4 ⟨rfl, h4⟩
            have d2 := h4.out.c2
            go_wp2
            all_goals go_ret
            all_goals exact ⟨by rw [HF.out, HG.out]; rfl, h4.out.below⟩
        · clear h1 h5
          by_cases hx : 8 ≤ p.wd
          · have ha : decide (8 ≤ p.wd) = true := decide_eq_true hx
            by_cases hy : p.wd ≤ 24
            · have hb : decide (p.wd ≤ 24) = true := decide_eq_true hy
              have HG : Hid (fitB 3 p.wd = true) := decide_eq_true (by omega)
              go_enter Tryz.func41, Tryz.ntmps41
              go_wp2_with fail
              generalize hwa : w.alloc _ = wa
              have HA : Hid (Bx w p ao cap wa) := by
                rw [← hwa]
                exact HB0.out
              clear hwa HB0
              refine (KC.out wa HA).mono ?_
              rintro e w4 ⟨rfl, h4⟩
              have d2 := h4.out.c2
              go_wp2
              all_goals go_ret
              all_goals exact ⟨by rw [HF.out, HG.out]; rfl, h4.out.below⟩
            · have hb : decide (p.wd ≤ 24) = false := decide_eq_false hy
              have HG : Hid (fitB 3 p.wd = false) := decide_eq_false (by omega)
              go_enter Tryz.func41, Tryz.ntmps41
              go_wp2_with fail
              generalize hwa : w.alloc _ = wa
              have HA : Hid (Bx w p ao cap wa) := by
                rw [← hwa]
                exact HB0.out
              clear hwa HB0
              refine (KC.out wa HA).mono ?_
              rintro e w4 ⟨rfl, h4⟩
              have d2 := h4.out.c2
              go_wp2
              all_goals go_ret
              all_goals exact ⟨by rw [HF.out, HG.out]; rfl, h4.out.below⟩
          · have ha : decide (8 ≤ p.wd) = false := decide_eq_false hx
            by_cases hy : p.wd ≤ 24
            · have hb : decide (p.wd ≤ 24) = true := decide_eq_true hy
              have HG : Hid (fitB 3 p.wd = true) := decide_eq_true (by omega)
              go_enter Tryz.func41, Tryz.ntmps41
              go_wp2_with fail
              generalize hwa : w.alloc _ = wa
              have HA : Hid (Bx w p ao cap wa) := by
                rw [← hwa]
                exact HB0.out
              clear hwa HB0
              refine (KC.out wa HA).mono ?_
              rintro e w4 ⟨rfl, h4⟩
              have d2 := h4.out.c2
              go_wp2
              all_goals go_ret
              all_goals exact ⟨by rw [HF.out, HG.out]; rfl, h4.out.below⟩
            · exact absurd hy (by omega)
        · clear h1 h5
          by_cases hx : 8 ≤ p.wd
          · have ha : decide (8 ≤ p.wd) = true := decide_eq_true hx
            by_cases hy : p.wd ≤ 24
            · have hb : decide (p.wd ≤ 24) = true := decide_eq_true hy
              have HG : Hid (fitB 4 p.wd = true) := decide_eq_true (by omega)
              go_enter Tryz.func41, Tryz.ntmps41
              go_wp2_with fail
              generalize hwa : w.alloc _ = wa
              have HA : Hid (Bx w p ao cap wa) := by
                rw [← hwa]
                exact HB0.out
              clear hwa HB0
              refine (KC.out wa HA).mono ?_
              rintro e w4 ⟨rfl, h4⟩
              have d2 := h4.out.c2
              go_wp2
              all_goals go_ret
              all_goals exact ⟨by rw [HF.out, HG.out]; rfl, h4.out.below⟩
            · have hb : decide (p.wd ≤ 24) = false := decide_eq_false hy
              have HG : Hid (fitB 4 p.wd = false) := decide_eq_false (by omega)
              go_enter Tryz.func41, Tryz.ntmps41
              go_wp2_with fail
              generalize hwa : w.alloc _ = wa
              have HA : Hid (Bx w p ao cap wa) := by
                rw [← hwa]
                exact HB0.out
              clear hwa HB0
              refine (KC.out wa HA).mono ?_
              rintro e w4 ⟨rfl, h4⟩
              have d2 := h4.out.c2
              go_wp2
              all_goals go_ret
              all_goals exact ⟨by rw [HF.out, HG.out]; rfl, h4.out.below⟩
          · have ha : decide (8 ≤ p.wd) = false := decide_eq_false hx
            by_cases hy : p.wd ≤ 24
            · have hb : decide (p.wd ≤ 24) = true := decide_eq_true hy
              have HG : Hid (fitB 4 p.wd = true) := decide_eq_true (by omega)
              go_enter Tryz.func41, Tryz.ntmps41
              go_wp2_with fail
              generalize hwa : w.alloc _ = wa
              have HA : Hid (Bx w p ao cap wa) := by
                rw [← hwa]
                exact HB0.out
              clear hwa HB0
              refine (KC.out wa HA).mono ?_
              rintro e w4 ⟨rfl, h4⟩
              have d2 := h4.out.c2
              go_wp2
              all_goals go_ret
              all_goals exact ⟨by rw [HF.out, HG.out]; rfl, h4.out.below⟩
            · exact absurd hy (by omega)
        · clear h1 h5
          by_cases hx : 8 ≤ p.wd
          · have ha : decide (8 ≤ p.wd) = true := decide_eq_true hx
            by_cases hy : p.wd ≤ 24
            · have hb : decide (p.wd ≤ 24) = true := decide_eq_true hy
              have HG : Hid (fitB 5 p.wd = true) := decide_eq_true (by omega)
              go_enter Tryz.func41, Tryz.ntmps41
              go_wp2_with fail
              generalize hwa : w.alloc _ = wa
              have HA : Hid (Bx w p ao cap wa) := by
                rw [← hwa]
                exact HB0.out
              clear hwa HB0
              refine (KC.out wa HA).mono ?_
              rintro e w4 ⟨rfl, h4⟩
              have d2 := h4.out.c2
              go_wp2
              all_goals go_ret
              all_goals exact ⟨by rw [HF.out, HG.out]; rfl, h4.out.below⟩
            · have hb : decide (p.wd ≤ 24) = false := decide_eq_false hy
              have HG : Hid (fitB 5 p.wd = false) := decide_eq_false (by omega)
              go_enter Tryz.func41, Tryz.ntmps41
              go_wp2_with fail
              generalize hwa : w.alloc _ = wa
              have HA : Hid (Bx w p ao cap wa) := by
                rw [← hwa]
                exact HB0.out
              clear hwa HB0
              refine (KC.out wa HA).mono ?_
              rintro e w4 ⟨rfl, h4⟩
              have d2 := h4.out.c2
              go_wp2
              all_goals go_ret
              all_goals exact ⟨by rw [HF.out, HG.out]; rfl, h4.out.below⟩
          · have ha : decide (8 ≤ p.wd) = false := decide_eq_false hx
            by_cases hy : p.wd ≤ 24
            · have hb : decide (p.wd ≤ 24) = true := decide_eq_true hy
              have HG : Hid (fitB 5 p.wd = false) := decide_eq_false (by omega)
              go_enter Tryz.func41, Tryz.ntmps41
              go_wp2_with fail
              generalize hwa : w.alloc _ = wa
              have HA : Hid (Bx w p ao cap wa) := by
                rw [← hwa]
                exact HB0.out
              clear hwa HB0
              refine (KC.out wa HA).mono ?_
              rintro e w4 ⟨rfl, h4⟩
              have d2 := h4.out.c2
              go_wp2
              all_goals go_ret
              all_goals exact ⟨by rw [HF.out, HG.out]; rfl, h4.out.below⟩
            · exact absurd hy (by omega)
      · have HF : Hid (fitsN f p = checkN p) := by
          show _ = _
          unfold fitsN
          rw [hfb, if_neg hc]
          rfl
        clear hfb
        go_enter Tryz.func41, Tryz.ntmps41
        go_wp2_with fail
        generalize hwa : w.alloc _ = wa
        have HA : Hid (Bx w p ao cap wa) := by
          rw [← hwa]
          exact HB0.out
        clear hwa HB0
        refine (KC.out wa HA).mono ?_
        rintro e w4 ⟨rfl, h4⟩
        go_wp2
        go_ret
        exact ⟨by rw [HF.out]; rfl, h4.out.below⟩

end Go.Proofs.YtfnkdahocehilaaGreat
