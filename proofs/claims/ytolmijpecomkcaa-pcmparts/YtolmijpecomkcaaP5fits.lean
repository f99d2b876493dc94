/- Own text: the walk of the document's Fits. -/
import Derived.Test.YtolmijpecomkcaaP5check2
namespace Go.Proofs.Ytolmijpecomkcaa
open Go.RowKit
set_option linter.unusedSimpArgs false
set_option linter.unusedVariables false

theorem check_zero (p : Pcm) (h : checkN p = 0) : headB p = true ∧ lenP p ≤ 1048576 ∧ ∀ i, i < p.pl.length → planeB p (p.pl.getD i []) = true := by
  unfold checkN at h
  cases hb : headB p && p.pl.all (planeB p) with
  | false => rw [hb] at h; cases h
  | true =>
    rw [hb] at h
    obtain ⟨h1, h2⟩ := Bool.and_eq_true_iff.1 hb
    refine ⟨h1, ?_, fun i hi => ?_⟩
    · by_cases hl : 1048576 < lenP p
      · rw [if_pos rfl, if_pos hl] at h
        cases h
      · omega
    · rw [List.all_eq_true] at h2
      apply h2
      rw [List.getD_eq_getElem?_getD, List.getElem?_eq_getElem hi]
      exact List.getElem_mem hi

theorem checkN_three (p : Pcm) : checkN p = 0 ∨ checkN p = 5 ∨ checkN p = 50 := by
  unfold checkN
  split
  · split
    · exact .inr (.inl rfl)
    · exact .inl rfl
  · exact .inr (.inr rfl)

set_option maxRecDepth 20000 in
set_option maxHeartbeats 3200000 in
theorem rfits_spec (f : Int) (p : Pcm) (ao : Option Addr) (cap : Nat) (w : World) (hr : RowsAt w ao p.pl) :
    Calls Try.prog 11 #[.int .i64 f, pcmV p ao cap] w fun e w' => e = .returned (.int .i64 (fitsN f p)) ∧ Below w.heap.size w w' := by
  have HB0 : Hid (Bx w p ao cap (w.alloc (.cells (pcmC p ao cap) 24))) := Bx.new w p ao cap
  have KC : Hid (∀ wx, Hid (Bx w p ao cap wx) → Calls Try.prog 9 #[pcmV p ao cap] wx fun e w' => e = .returned (.int .i64 (checkN p)) ∧ Hid (Bx w p ao cap w')) := fun wx hx =>
    (rcheck_spec p ao cap wx (hr.below hx.out.below)).mono fun e w' h => ⟨h.1, hx.out.next h.2⟩
  clear hr
  by_cases h1 : f < 1
  · have HF : Hid (fitsN f p = 1) := by
      show _ = _
      unfold fitsN formatB
      rw [decide_eq_false (by omega)]
      rfl
    go_enter Try.func11, Try.ntmps11
    go_wp2
    go_ret
    exact ⟨by rw [HF.out]; rfl, HB0.out.below⟩
  · by_cases h5 : 5 < f
    · have HF : Hid (fitsN f p = 1) := by
        show _ = _
        unfold fitsN formatB
        rw [decide_eq_false (by omega)]
        rfl
      go_enter Try.func11, Try.ntmps11
      go_wp2
      go_ret
      exact ⟨by rw [HF.out]; rfl, HB0.out.below⟩
    · have hfb : formatB f = true := decide_eq_true (by omega)
      by_cases hc : checkN p = 0
      · obtain ⟨hh, _, _⟩ := check_zero p hc
        obtain ⟨_, _, _, _, w1, w2, _⟩ := head_parts p hh
        have HF : Hid (fitsN f p = if fitB f p.wd then 0 else 4) := by
          show _ = _
          unfold fitsN
          rw [hfb, if_pos hc]
          rfl
        rw [hc] at KC
        clear hh hfb hc
        have hcases : f = 1 ∨ f = 2 ∨ f = 3 ∨ f = 4 ∨ f = 5 := by omega
        rcases hcases with rfl | rfl | rfl | rfl | rfl
        · clear h1 h5
          by_cases hx : p.wd % 8 = 0
          · have hb : (p.wd % 8 == 0) = true := by rw [hx]; rfl
            have HG : Hid (fitB 1 p.wd = true) := decide_eq_true (by omega)
            go_enter Try.func11, Try.ntmps11
            go_wp2_with fail
            generalize hwa : w.alloc _ = wa
            have HA : Hid (Bx w p ao cap wa) := by
              rw [← hwa]
              exact HB0.out
            clear hwa HB0
            refine (KC.out wa HA).mono ?_
            rintro e w4 ⟨rfl, h4⟩
            have d2 := h4.out.c2
            go_wp2
            all_goals go_ret
            all_goals exact ⟨by rw [HF.out, HG.out]; rfl, h4.out.below⟩
          · have hb : (p.wd % 8 == 0) = false := beq_eq_false_iff_ne.2 hx
            have HG : Hid (fitB 1 p.wd = false) := decide_eq_false (by omega)
            go_enter Try.func11, Try.ntmps11
            go_wp2_with fail
            generalize hwa : w.alloc _ = wa
            have HA : Hid (Bx w p ao cap wa) := by
              rw [← hwa]
              exact HB0.out
            clear hwa HB0
            refine (KC.out wa HA).mono ?_
            rintro e w4 ⟨rfl, h4⟩
            have d2 := h4.out.c2
            go_wp2
            all_goals go_ret
            all_goals exact ⟨by rw [HF.out, HG.out]; rfl, h4.out.below⟩
        · clear h1 h5
          by_cases hx : p.wd % 8 = 0
          · have hb : (p.wd % 8 == 0) = true := by rw [hx]; rfl
            have HG : Hid (fitB 2 p.wd = true) := decide_eq_true (by omega)
            go_enter Try.func11, Try.ntmps11
            go_wp2_with fail
            generalize hwa : w.alloc _ = wa
            have HA : Hid (Bx w p ao cap wa) := by
              rw [← hwa]
              exact HB0.out
            clear hwa HB0
            refine (KC.out wa HA).mono ?_
            rintro e w4 ⟨rfl, h4⟩
            have d2 := h4.out.c2
            go_wp2
            all_goals go_ret
            all_goals exact ⟨by rw [HF.out, HG.out]; rfl, h4.out.below⟩
          · have hb : (p.wd % 8 == 0) = false := beq_eq_false_iff_ne.2 hx
            have HG : Hid (fitB 2 p.wd = false) := decide_eq_false (by omega)
            go_enter Try.func11, Try.ntmps11
            go_wp2_with fail
            generalize hwa : w.alloc _ = wa
            have HA : Hid (Bx w p ao cap wa) := by
              rw [← hwa]
              exact HB0.out
            clear hwa HB0
            refine (KC.out wa HA).mono ?_
            rintro e w4 ⟨rfl, h4⟩
            have d2 := h4.out.c2
            go_wp2
            all_goals go_ret
            all_goals exact ⟨by rw [HF.out, HG.out]; rfl, h4.out.below⟩
        · clear h1 h5
          by_cases hx : 8 ≤ p.wd
          · have ha : decide (8 ≤ p.wd) = true := decide_eq_true hx
            by_cases hy : p.wd ≤ 24
            · have hb : decide (p.wd ≤ 24) = true := decide_eq_true hy
              have HG : Hid (fitB 3 p.wd = true) := decide_eq_true (by omega)
              go_enter Try.func11, Try.ntmps11
              go_wp2_with fail
              generalize hwa : w.alloc _ = wa
              have HA : Hid (Bx w p ao cap wa) := by
                rw [← hwa]
                exact HB0.out
              clear hwa HB0
              refine (KC.out wa HA).mono ?_
              rintro e w4 ⟨rfl, h4⟩
              have d2 := h4.out.c2
              go_wp2
              all_goals go_ret
              all_goals exact ⟨by rw [HF.out, HG.out]; rfl, h4.out.below⟩
            · have hb : decide (p.wd ≤ 24) = false := decide_eq_false hy
              have HG : Hid (fitB 3 p.wd = false) := decide_eq_false (by omega)
              go_enter Try.func11, Try.ntmps11
              go_wp2_with fail
              generalize hwa : w.alloc _ = wa
              have HA : Hid (Bx w p ao cap wa) := by
                rw [← hwa]
                exact HB0.out
              clear hwa HB0
              refine (KC.out wa HA).mono ?_
              rintro e w4 ⟨rfl, h4⟩
              have d2 := h4.out.c2
              go_wp2
              all_goals go_ret
              all_goals exact ⟨by rw [HF.out, HG.out]; rfl, h4.out.below⟩
          · have ha : decide (8 ≤ p.wd) = false := decide_eq_false hx
            by_cases hy : p.wd ≤ 24
            · have hb : decide (p.wd ≤ 24) = true := decide_eq_true hy
              have HG : Hid (fitB 3 p.wd = true) := decide_eq_true (by omega)
              go_enter Try.func11, Try.ntmps11
              go_wp2_with fail
              generalize hwa : w.alloc _ = wa
              have HA : Hid (Bx w p ao cap wa) := by
                rw [← hwa]
                exact HB0.out
              clear hwa HB0
              refine (KC.out wa HA).mono ?_
              rintro e w4 ⟨rfl, h4⟩
              have d2 := h4.out.c2
              go_wp2
              all_goals go_ret
              all_goals exact ⟨by rw [HF.out, HG.out]; rfl, h4.out.below⟩
            · exact absurd hy (by omega)
        · clear h1 h5
          by_cases hx : 8 ≤ p.wd
          · have ha : decide (8 ≤ p.wd) = true := decide_eq_true hx
            by_cases hy : p.wd ≤ 24
            · have hb : decide (p.wd ≤ 24) = true := decide_eq_true hy
              have HG : Hid (fitB 4 p.wd = true) := decide_eq_true (by omega)
              go_enter Try.func11, Try.ntmps11
              go_wp2_with fail
              generalize hwa : w.alloc _ = wa
              have HA : Hid (Bx w p ao cap wa) := by
                rw [← hwa]
                exact HB0.out
              clear hwa HB0
              refine (KC.out wa HA).mono ?_
              rintro e w4 ⟨rfl, h4⟩
              have d2 := h4.out.c2
              go_wp2
              all_goals go_ret
              all_goals exact ⟨by rw [HF.out, HG.out]; rfl, h4.out.below⟩
            · have hb : decide (p.wd ≤ 24) = false := decide_eq_false hy
              have HG : Hid (fitB 4 p.wd = false) := decide_eq_false (by omega)
              go_enter Try.func11, Try.ntmps11
              go_wp2_with fail
              generalize hwa : w.alloc _ = wa
              have HA : Hid (Bx w p ao cap wa) := by
                rw [← hwa]
                exact HB0.out
              clear hwa HB0
              refine (KC.out wa HA).mono ?_
              rintro e w4 ⟨rfl, h4⟩
              have d2 := h4.out.c2
              go_wp2
              all_goals go_ret
              all_goals exact ⟨by rw [HF.out, HG.out]; rfl, h4.out.below⟩
          · have ha : decide (8 ≤ p.wd) = false := decide_eq_false hx
            by_cases hy : p.wd ≤ 24
            · have hb : decide (p.wd ≤ 24) = true := decide_eq_true hy
              have HG : Hid (fitB 4 p.wd = true) := decide_eq_true (by omega)
              go_enter Try.func11, Try.ntmps11
              go_wp2_with fail
              generalize hwa : w.alloc _ = wa
              have HA : Hid (Bx w p ao cap wa) := by
                rw [← hwa]
                exact HB0.out
              clear hwa HB0
              refine (KC.out wa HA).mono ?_
              rintro e w4 ⟨rfl, h4⟩
              have d2 := h4.out.c2
              go_wp2
              all_goals go_ret
              all_goals exact ⟨by rw [HF.out, HG.out]; rfl, h4.out.below⟩
            · exact absurd hy (by omega)
        · clear h1 h5
          by_cases hx : 8 ≤ p.wd
          · have ha : decide (8 ≤ p.wd) = true := decide_eq_true hx
            by_cases hy : p.wd ≤ 24
            · have hb : decide (p.wd ≤ 24) = true := decide_eq_true hy
              have HG : Hid (fitB 5 p.wd = true) := decide_eq_true (by omega)
              go_enter Try.func11, Try.ntmps11
              go_wp2_with fail
              generalize hwa : w.alloc _ = wa
              have HA : Hid (Bx w p ao cap wa) := by
                rw [← hwa]
                exact HB0.out
              clear hwa HB0
              refine (KC.out wa HA).mono ?_
              rintro e w4 ⟨rfl, h4⟩
              have d2 := h4.out.c2
              go_wp2
              all_goals go_ret
              all_goals exact ⟨by rw [HF.out, HG.out]; rfl, h4.out.below⟩
            · have hb : decide (p.wd ≤ 24) = false := decide_eq_false hy
              have HG : Hid (fitB 5 p.wd = false) := decide_eq_false (by omega)
              go_enter Try.func11, Try.ntmps11
              go_wp2_with fail
              generalize hwa : w.alloc _ = wa
              have HA : Hid (Bx w p ao cap wa) := by
                rw [← hwa]
                exact HB0.out
              clear hwa HB0
              refine (KC.out wa HA).mono ?_
              rintro e w4 ⟨rfl, h4⟩
              have d2 := h4.out.c2
              go_wp2
              all_goals go_ret
              all_goals exact ⟨by rw [HF.out, HG.out]; rfl, h4.out.below⟩
          · have ha : decide (8 ≤ p.wd) = false := decide_eq_false hx
            by_cases hy : p.wd ≤ 24
            · have hb : decide (p.wd ≤ 24) = true := decide_eq_true hy
              have HG : Hid (fitB 5 p.wd = false) := decide_eq_false (by omega)
              go_enter Try.func11, Try.ntmps11
              go_wp2_with fail
              generalize hwa : w.alloc _ = wa
              have HA : Hid (Bx w p ao cap wa) := by
                rw [← hwa]
                exact HB0.out
              clear hwa HB0
              refine (KC.out wa HA).mono ?_
              rintro e w4 ⟨rfl, h4⟩
              have d2 := h4.out.c2
              go_wp2
              all_goals go_ret
              all_goals exact ⟨by rw [HF.out, HG.out]; rfl, h4.out.below⟩
            · exact absurd hy (by omega)
      · have HF : Hid (fitsN f p = checkN p) := by
          show _ = _
          unfold fitsN
          rw [hfb, if_neg hc]
          rfl
        clear hfb
        go_enter Try.func11, Try.ntmps11
        go_wp2_with fail
        generalize hwa : w.alloc _ = wa
        have HA : Hid (Bx w p ao cap wa) := by
          rw [← hwa]
          exact HB0.out
        clear hwa HB0
        refine (KC.out wa HA).mono ?_
        rintro e w4 ⟨rfl, h4⟩
        go_wp2
        go_ret
        exact ⟨by rw [HF.out]; rfl, h4.out.below⟩

end Go.Proofs.Ytolmijpecomkcaa
