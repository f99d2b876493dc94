/- Own text: the walk of the document's Check. the walk of the document's Fits. the walks of the document's Ints, SamePlanes, Same. -/
import Derived.Test.YtaepgjheknkojaaGreatG4x
namespace Go.Proofs.YtaepgjheknkojaaGreat
open Go.RowKit
set_option linter.unusedSimpArgs false
set_option linter.unusedVariables false

/-- The i-th list and its cells, wherever memory has only grown. -/
theorem RowsAt.at {w0 : World} {ao : Option Addr} {xs : List (List Int)} (h : RowsAt w0 ao xs) (i : Nat) (hi : i < xs.length) :
    ∃ b off a c, ao = some ⟨b, off, none⟩ ∧ (xs.getD i []).length ≤ 17592186044415 ∧ (∀ w, Below w0.heap.size w0 w → w.cell? ⟨b, off + i, none⟩ = some (.slice a (xs.getD i []).length c)) ∧ IntsAt w0 a (xs.getD i []) := by
  obtain ⟨b, off, e, hc⟩ := h.lies (by omega)
  obtain ⟨a, c, h1, _, _, h2⟩ := hc i hi
  refine ⟨b, off, a, c, e, h2.len, fun w hw => ?_, h2⟩
  have h3 := lt_cell h1
  rw [← h1]
  exact World.cell?_of_block (w := w0) (hw.block b h3)
theorem RowsAt.at2 {w0 : World} {ao : Option Addr} {xs : List (List Int)} (h : RowsAt w0 ao xs) (i : Nat) (hi : i < xs.length) :
    ∃ b off a c, ao = some ⟨b, off, none⟩ ∧ (xs.getD i []).length ≤ c ∧ (a = none → c = 0) ∧ (∀ w, Below w0.heap.size w0 w → w.cell? ⟨b, off + i, none⟩ = some (.slice a (xs.getD i []).length c)) ∧ IntsAt w0 a (xs.getD i []) := by
  obtain ⟨b, off, e, hc⟩ := h.lies (by omega)
  obtain ⟨a, c, h1, h5, h6, h2⟩ := hc i hi
  refine ⟨b, off, a, c, e, h5, h6, fun w hw => ?_, h2⟩
  have h3 := lt_cell h1
  rw [← h1]
  exact World.cell?_of_block (w := w0) (hw.block b h3)
theorem IntsAt.at {w0 : World} {a : Option Addr} {l : List Int} (h : IntsAt w0 a l) (k : Nat) (hk : k < l.length) :
    ∃ b off, a = some ⟨b, off, none⟩ ∧ (∀ w, Below w0.heap.size w0 w → w.cell? ⟨b, off + k, none⟩ = some (.int .i64 (l.getD k 0))) ∧ -9223372036854775808 ≤ l.getD k 0 ∧ l.getD k 0 ≤ 9223372036854775807 := by
  obtain ⟨b, off, e, hc⟩ := h.lies (by omega)
  have h1 := hc k hk
  refine ⟨b, off, e, fun w hw => ?_, ?_⟩
  · have h3 := lt_cell h1
    rw [← h1]
    exact World.cell?_of_block (w := w0) (hw.block b h3)
  · apply h.num
    rw [List.getD_eq_getElem?_getD, List.getElem?_eq_getElem hk]
    exact List.getElem_mem hk

set_option maxRecDepth 20000 in
set_option maxHeartbeats 3200000 in
theorem rcheck_yes (p : Pcm) (ao : Option Addr) (cap : Nat) (w : World) (hr : RowsAt w ao p.pl) (hh : headB p = true) :
    Calls Tryz.prog 42 #[pcmV p ao cap] w fun e w' => e = .returned (.int .i64 (checkN p)) ∧ Below w.heap.size w w' := by
  have hl := hr.len
  obtain ⟨r1, r2, c1, c2, w1, w2, hlen⟩ := head_parts p hh
  have HH : Hid (headB p = true) := hh
  have HR : Hid (RowsAt w ao p.pl) := hr
  have KL : Hid (∀ wx, Hid (Bx w p ao cap wx) → Calls Tryz.prog 40 #[pcmV p ao cap] wx fun e w' => e = .returned (.int .i64 (lenP p : Int)) ∧ Hid (Bx w p ao cap w')) := fun wx hx =>
    (rlen_spec p ao cap wx (hr.below hx.out.below)).mono fun e w' h => ⟨h.1, hx.out.next h.2⟩
  have HB0 : Hid (Bx w p ao cap (w.alloc (.cells (pcmC p ao cap) 24))) := Bx.new w p ao cap
  have hlp : lenP p ≤ 17592186044415 := by
    obtain ⟨_, _, _, _, _, h1, _, _⟩ := hr.at 0 (by omega)
    exact h1
  clear hr hh
  go_enter Tryz.func42, Tryz.ntmps42
  go_wp2_with fail
  generalize hwa : w.alloc _ = wa
  have HA : Hid (Bx w p ao cap wa) := by
    rw [← hwa]
    exact HB0.out
  clear hwa HB0
  go_loopw [3] (fun t wr => ∃ i : Nat, i ≤ p.pl.length ∧ t = .int .i64 (i : Int) ∧ (∀ j, j < i → planeB p (p.pl.getD j []) = true) ∧ Bx w p ao cap wr) (fun t _ => p.pl.length - (intOf t).toNat)
  case atStart => exact ⟨0, Nat.zero_le _, rfl, fun j hj => absurd hj (Nat.not_lt_zero _), HA.out⟩
  case round =>
    clear HA
    obtain ⟨i, hi, rfl, hok, hbx⟩ := hrel
    have HO : Hid (∀ j, j < i → planeB p (p.pl.getD j []) = true) := hok
    have HB : Hid (Bx w p ao cap wr) := hbx
    clear hok hbx
    have d1 := HB.out.c1
    have d2 := HB.out.c2
    have d3 := HB.out.c3
    by_cases hlt : i < p.pl.length
    · obtain ⟨b, off, a, c, rfl, hll, hcell, hints⟩ := HR.out.at i hlt
      have hc0 := hcell wr HB.out.below
      have HC : Hid (∀ wx, Hid (Bx w p (some ⟨b, off, none⟩) cap wx) → Hid (Bx w p (some ⟨b, off, none⟩) cap wx) ∧ wx.cell? ⟨w.heap.size, 0, none⟩ = some (.int .i64 p.rate) ∧ wx.cell? ⟨w.heap.size, 1, none⟩ = some (.int .i64 p.ch) ∧ wx.cell? ⟨w.heap.size, 2, none⟩ = some (.int .i64 p.wd) ∧ wx.cell? ⟨w.heap.size, 3, none⟩ = some (.slice (some ⟨b, off, none⟩) p.pl.length cap) ∧ wx.cell? ⟨b, off + i, none⟩ = some (.slice a (p.pl.getD i []).length c)) := fun wx hx =>
        ⟨hx, hx.out.c0, hx.out.c1, hx.out.c2, hx.out.c3, hcell wx hx.out.below⟩
      have HCL : Hid (∀ wx, Below w.heap.size w wx → wx.cell? ⟨b, off + i, none⟩ = some (.slice a (p.pl.getD i []).length c)) := hcell
      have HIN : Hid (IntsAt w a (p.pl.getD i [])) := hints
      have HD : Hid (Bx w p (some ⟨b, off, none⟩) cap wr.drew) := HB.out.next ⟨rfl, rfl, rfl, Nat.le_refl _, fun _ _ => rfl⟩
      clear hcell hints
      have HPL : Hid (planeB p (p.pl.getD i []) = false → checkN p = 50) := fun h => check_plane p i hlt h
      have HLE : Hid (¬ (p.pl.getD i []).length = lenP p → planeB p (p.pl.getD i []) = false) := plane_len p _
      have HPS : Hid (∀ k, k < (p.pl.getD i []).length → sampB ((p.pl.getD i []).getD k 0) p.wd = false → planeB p (p.pl.getD i []) = false) := fun k hk h => plane_samp p _ k hk h
      have HPA : Hid ((p.pl.getD i []).length = lenP p → (∀ k, k < (p.pl.getD i []).length → sampB ((p.pl.getD i []).getD k 0) p.wd = true) → planeB p (p.pl.getD i []) = true) := plane_all p _
      generalize hL : p.pl.getD i [] = L at *
      by_cases hne : L.length = lenP p
      · have hdn : ((L.length : Int) == (lenP p : Int)) = true := by rw [hne]; exact beq_self_eq_true _
        go_wp2_with fail
        go_region_held (fun wx => Hid (Bx w p (some ⟨b, off, none⟩) cap wx) ∧ wx.cell? ⟨w.heap.size, 0, none⟩ = some (.int .i64 p.rate) ∧ wx.cell? ⟨w.heap.size, 1, none⟩ = some (.int .i64 p.ch) ∧ wx.cell? ⟨w.heap.size, 2, none⟩ = some (.int .i64 p.wd) ∧ wx.cell? ⟨w.heap.size, 3, none⟩ = some (.slice (some ⟨b, off, none⟩) p.pl.length cap) ∧ wx.cell? ⟨b, off + i, none⟩ = some (.slice a L.length c)) (exact HC.out _ (by assumption))
          (first | (go_at_call 40; refine (KL.out _ ?_).mono ?_; (first | assumption | exact (by assumption : _ ∧ _).1); rintro e w4 ⟨rfl, h4⟩))
        rename_i hX
        have HX := hX.1
        clear hX
        go_wp2_with fail
        go_loopw [4] (fun t wr' => ∃ k : Nat, k ≤ L.length ∧ t = .int .i64 (k : Int) ∧ (∀ j, j < k → sampB (L.getD j 0) p.wd = true) ∧ Bx w p (some ⟨b, off, none⟩) cap wr') (fun t _ => L.length - (intOf t).toNat)
        case atStart => exact ⟨0, Nat.zero_le _, rfl, fun j hj => absurd hj (Nat.not_lt_zero _), HX.out⟩
        case round =>
          clear HX
          obtain ⟨k, hk, rfl, hsok, hbx⟩ := hrel
          have HSO : Hid (∀ j, j < k → sampB (L.getD j 0) p.wd = true) := hsok
          have HB2 : Hid (Bx w p (some ⟨b, off, none⟩) cap wr) := hbx
          clear hsok hbx
          have e2 := HB2.out.c2
          have e3 := HB2.out.c3
          have ec := HCL.out wr HB2.out.below
          by_cases hkl : k < L.length
          · obtain ⟨b2, off2, rfl, hcell2, hn1, hn2⟩ := HIN.out.at k hkl
            have ek := hcell2 wr HB2.out.below
            have ks := rsample_spec (L.getD k 0) p.wd w1 w2
            have HPK := HPS.out k hkl
            clear hcell2
            generalize hX : L.getD k 0 = X at *
            cases hsb : sampB X p.wd with
            | true =>
              rw [hsb] at ks
              have HSX : Hid (sampB (L.getD k 0) p.wd = true) := by rw [hX]; exact hsb
              clear HPK hX hsb
              go_wp2_with fail
              go_quiet ((go_at_call 49; exact Calls.quiet_of_same (ks _)))
              go_wp2_with fail
              go_roundw
              case rel =>
                refine ⟨k + 1, by omega, by go_num, fun j hj => ?_, HB2.out.drewN _⟩
                by_cases e : j = k
                · rw [e]
                  exact HSX.out
                · exact HSO.out j (by omega)
              case measure => simp [intOf]; omega
            | false =>
              rw [hsb] at ks
              have HF : Hid (checkN p = 50) := HPL.out (HPK hsb)
              clear HPK hX hsb
              go_wp2_with fail
              go_quiet ((go_at_call 49; exact Calls.quiet_of_same (ks _)))
              go_wp2_with fail
              go_ret
              exact ⟨by rw [HF.out]; rfl, (HB2.out.drewN _).below⟩
          · have HOK : Hid (planeB p L = true) := HPA.out hne (fun j hj => HSO.out j (by omega))
            go_wp2_with fail
            go_roundw
            case rel =>
              refine ⟨i + 1, by omega, by go_num, fun j hj => ?_, HB2.out⟩
              by_cases e : j = i
              · rw [e, hL]
                exact HOK.out
              · exact HO.out j (by omega)
            case measure => simp [intOf]; omega
      · have HF : Hid (checkN p = 50) := HPL.out (HLE.out hne)
        have hdn : ((L.length : Int) == (lenP p : Int)) = false := by
          rw [beq_eq_false_iff_ne]
          omega
        go_wp2_with fail
        go_region_held (fun wx => Hid (Bx w p (some ⟨b, off, none⟩) cap wx) ∧ wx.cell? ⟨w.heap.size, 0, none⟩ = some (.int .i64 p.rate) ∧ wx.cell? ⟨w.heap.size, 1, none⟩ = some (.int .i64 p.ch) ∧ wx.cell? ⟨w.heap.size, 2, none⟩ = some (.int .i64 p.wd) ∧ wx.cell? ⟨w.heap.size, 3, none⟩ = some (.slice (some ⟨b, off, none⟩) p.pl.length cap) ∧ wx.cell? ⟨b, off + i, none⟩ = some (.slice a L.length c)) (exact HC.out _ (by assumption))
          (first | (go_at_call 40; refine (KL.out _ ?_).mono ?_; (first | assumption | exact (by assumption : _ ∧ _).1); rintro e w4 ⟨rfl, h4⟩))
        rename_i hX
        have HX := hX.1
        clear hX
        go_wp2_with fail
        go_ret
        exact ⟨by rw [HF.out]; rfl, HX.out.below⟩
    · have hcn := check_all p HH.out (fun j hj => HO.out j (by omega))
      have d0 := HB.out.c0
      have kl := KL.out wr HB
      by_cases hbig : 1048576 < lenP p
      · rw [if_pos hbig] at hcn
        have HF : Hid (checkN p = 5) := hcn
        clear hcn
        go_wp2_with fail
        refine kl.mono ?_
        rintro e w4 ⟨rfl, h4⟩
        go_wp2
        go_ret
        exact ⟨by rw [HF.out]; rfl, h4.out.below⟩
      · rw [if_neg hbig] at hcn
        have HF : Hid (checkN p = 0) := hcn
        clear hcn
        go_wp2_with fail
        refine kl.mono ?_
        rintro e w4 ⟨rfl, h4⟩
        go_wp2
        go_ret
        exact ⟨by rw [HF.out]; rfl, h4.out.below⟩

theorem rcheck_spec (p : Pcm) (ao : Option Addr) (cap : Nat) (w : World) (hr : RowsAt w ao p.pl) :
    Calls Tryz.prog 42 #[pcmV p ao cap] w fun e w' => e = .returned (.int .i64 (checkN p)) ∧ Below w.heap.size w w' := by
  cases hh : headB p with
  | true => exact rcheck_yes p ao cap w hr hh
  | false =>
    rw [check_head p hh]
    exact rcheck_no p ao cap w hr hh

end Go.Proofs.YtaepgjheknkojaaGreat

namespace Go.Proofs.YtaepgjheknkojaaGreat
open Go.RowKit
set_option linter.unusedSimpArgs false
set_option linter.unusedVariables false

theorem check_zero (p : Pcm) (h : checkN p = 0) : headB p = true ∧ lenP p ≤ 1048576 ∧ ∀ i, i < p.pl.length → planeB p (p.pl.getD i []) = true := by
  unfold checkN at h
  cases hb : headB p && p.pl.all (planeB p) with
  | false => rw [hb] at h; cases h
  | true =>
    rw [hb] at h
    obtain ⟨h1, h2⟩ := Bool.and_eq_true_iff.1 hb
    refine ⟨h1, ?_, fun i hi => ?_⟩
    · by_cases hl : 1048576 < lenP p
      · rw [if_pos rfl, if_pos hl] at h
        cases h
      · omega
    · rw [List.all_eq_true] at h2
      apply h2
      rw [List.getD_eq_getElem?_getD, List.getElem?_eq_getElem hi]
      exact List.getElem_mem hi

theorem checkN_three (p : Pcm) : checkN p = 0 ∨ checkN p = 5 ∨ checkN p = 50 := by
  unfold checkN
  split
  · split
    · exact .inr (.inl rfl)
    · exact .inl rfl
  · exact .inr (.inr rfl)

set_option maxRecDepth 20000 in
set_option maxHeartbeats 3200000 in
theorem rfits_spec (f : Int) (p : Pcm) (ao : Option Addr) (cap : Nat) (w : World) (hr : RowsAt w ao p.pl) :
    Calls Tryz.prog 15 #[.int .i64 f, pcmV p ao cap] w fun e w' => e = .returned (.int .i64 (fitsN f p)) ∧ Below w.heap.size w w' := by
  have HB0 : Hid (Bx w p ao cap (w.alloc (.cells (pcmC p ao cap) 24))) := Bx.new w p ao cap
  have KC : Hid (∀ wx, Hid (Bx w p ao cap wx) → Calls Tryz.prog 42 #[pcmV p ao cap] wx fun e w' => e = .returned (.int .i64 (checkN p)) ∧ Hid (Bx w p ao cap w')) := fun wx hx =>
    (rcheck_spec p ao cap wx (hr.below hx.out.below)).mono fun e w' h => ⟨h.1, hx.out.next h.2⟩
  clear hr
  by_cases h1 : f < 1
  · have HF : Hid (fitsN f p = 1) := by
      show _ = _
      unfold fitsN formatB
      rw [decide_eq_false (by omega)]
      rfl
    go_enter Tryz.func15, Tryz.ntmps15
    go_wp2
    go_ret
    exact ⟨by rw [HF.out]; rfl, HB0.out.below⟩
  · by_cases h5 : 5 < f
    · have HF : Hid (fitsN f p = 1) := by
        show _ = _
        unfold fitsN formatB
        rw [decide_eq_false (by omega)]
        rfl
      go_enter Tryz.func15, Tryz.ntmps15
      go_wp2
      go_ret
      exact ⟨by rw [HF.out]; rfl, HB0.out.below⟩
    · have hfb : formatB f = true := decide_eq_true (by omega)
      by_cases hc : checkN p = 0
      · obtain ⟨hh, _, _⟩ := check_zero p hc
        obtain ⟨_, _, _, _, w1, w2, _⟩ := head_parts p hh
        have HF : Hid (fitsN f p = if fitB f p.wd then 0 else 4) := by
          show _ = _
          unfold fitsN
          rw [hfb, if_pos hc]
          rfl
        rw [hc] at KC
        clear hh hfb hc
        have hcases : f = 1 ∨ f = 2 ∨ f = 3 ∨ f = 4 ∨ f = 5 := by omega
        rcases hcases with rfl | rfl | rfl | rfl | rfl
        · clear h1 h5
          by_cases hx : p.wd % 8 = 0
          · have hb : (p.wd % 8 == 0) = true := by rw [hx]; rfl
            have HG : Hid (fitB 1 p.wd = true) := decide_eq_true (by omega)
            go_enter Tryz.func15, Tryz.ntmps15
            go_wp2_with fail
            generalize hwa : w.alloc _ = wa
            have HA : Hid (Bx w p ao cap wa) := by
              rw [← hwa]
              exact HB0.out
            clear hwa HB0
            refine (KC.out wa HA).mono ?_
            rintro e w4 ⟨rfl, h4⟩
            have d2 := h4.out.c2
            go_wp2
            all_goals go_ret
            all_goals exact ⟨by rw [HF.out, HG.out]; rfl, h4.out.below⟩
          · have hb : (p.wd % 8 == 0) = false := beq_eq_false_iff_ne.2 hx
            have HG : Hid (fitB 1 p.wd = false) := decide_eq_false (by omega)
            go_enter Tryz.func15, Tryz.ntmps15
            go_wp2_with fail
            generalize hwa : w.alloc _ = wa
            have HA : Hid (Bx w p ao cap wa) := by
              rw [← hwa]
              exact HB0.out
            clear hwa HB0
            refine (KC.out wa HA).mono ?_
            rintro e w4 ⟨rfl, h4⟩
            have d2 := h4.out.c2
            go_wp2
            all_goals go_ret
            all_goals exact ⟨by rw [HF.out, HG.out]; rfl, h4.out.below⟩
        · clear h1 h5
          by_cases hx : p.wd % 8 = 0
          · have hb : (p.wd % 8 == 0) = true := by rw [hx]; rfl
            have HG : Hid (fitB 2 p.wd = true) := decide_eq_true (by omega)
            go_enter Tryz.func15, Tryz.ntmps15
            go_wp2_with fail
            generalize hwa : w.alloc _ = wa
            have HA : Hid (Bx w p ao cap wa) := by
              rw [← hwa]
              exact HB0.out
            clear hwa HB0
            refine (KC.out wa HA).mono ?_
            rintro e w4 ⟨rfl, h4⟩
            have d2 := h4.out.c2
            go_wp2
            all_goals go_ret
            all_goals exact ⟨by rw [HF.out, HG.out]; rfl, h4.out.below⟩
          · have hb : (p.wd % 8 == 0) = false := beq_eq_false_iff_ne.2 hx
            have HG : Hid (fitB 2 p.wd = false) := decide_eq_false (by omega)
            go_enter Tryz.func15, Tryz.ntmps15
            go_wp2_with fail
            generalize hwa : w.alloc _ = wa
            have HA : Hid (Bx w p ao cap wa) := by
              rw [← hwa]
              exact HB0.out
            clear hwa HB0
            refine (KC.out wa HA).mono ?_
            rintro e w4 ⟨rfl, h4⟩
            have d2 := h4.out.c2
            go_wp2
            all_goals go_ret
            all_goals exact ⟨by rw [HF.out, HG.out]; rfl, h4.out.below⟩
        · clear h1 h5
          by_cases hx : 8 ≤ p.wd
          · have ha : decide (8 ≤ p.wd) = true := decide_eq_true hx
            by_cases hy : p.wd ≤ 24
            · have hb : decide (p.wd ≤ 24) = true := decide_eq_true hy
              have HG : Hid (fitB 3 p.wd = true) := decide_eq_true (by omega)
              go_enter Tryz.func15, Tryz.ntmps15
              go_wp2_with fail
              generalize hwa : w.alloc _ = wa
              have HA : Hid (Bx w p ao cap wa) := by
                rw [← hwa]
                exact HB0.out
              clear hwa HB0
              refine (KC.out wa HA).mono ?_
              rintro e w4 ⟨rfl, h4⟩
              have d2 := h4.out.c2
              go_wp2
              all_goals go_ret
              all_goals exact ⟨by rw [HF.out, HG.out]; rfl, h4.out.below⟩
            · have hb : decide (p.wd ≤ 24) = false := decide_eq_false hy
              have HG : Hid (fitB 3 p.wd = false) := decide_eq_false (by omega)
              go_enter Tryz.func15, Tryz.ntmps15
              go_wp2_with fail
              generalize hwa : w.alloc _ = wa
              have HA : Hid (Bx w p ao cap wa) := by
                rw [← hwa]
                exact HB0.out
              clear hwa HB0
              refine (KC.out wa HA).mono ?_
              rintro e w4 ⟨rfl, h4⟩
              have d2 := h4.out.c2
              go_wp2
              all_goals go_ret
              all_goals exact ⟨by rw [HF.out, HG.out]; rfl, h4.out.below⟩
          · have ha : decide (8 ≤ p.wd) = false := decide_eq_false hx
            by_cases hy : p.wd ≤ 24
            · have hb : decide (p.wd ≤ 24) = true := decide_eq_true hy
              have HG : Hid (fitB 3 p.wd = true) := decide_eq_true (by omega)
              go_enter Tryz.func15, Tryz.ntmps15
              go_wp2_with fail
              generalize hwa : w.alloc _ = wa
              have HA : Hid (Bx w p ao cap wa) := by
                rw [← hwa]
                exact HB0.out
              clear hwa HB0
              refine (KC.out wa HA).mono ?_
              rintro e w4 ⟨rfl, h4⟩
              have d2 := h4.out.c2
              go_wp2
              all_goals go_ret
              all_goals exact ⟨by rw [HF.out, HG.out]; rfl, h4.out.below⟩
            · exact absurd hy (by omega)
        · clear h1 h5
          by_cases hx : 8 ≤ p.wd
          · have ha : decide (8 ≤ p.wd) = true := decide_eq_true hx
            by_cases hy : p.wd ≤ 24
            · have hb : decide (p.wd ≤ 24) = true := decide_eq_true hy
              have HG : Hid (fitB 4 p.wd = true) := decide_eq_true (by omega)
              go_enter Tryz.func15, Tryz.ntmps15
              go_wp2_with fail
              generalize hwa : w.alloc _ = wa
              have HA : Hid (Bx w p ao cap wa) := by
                rw [← hwa]
                exact HB0.out
              clear hwa HB0
              refine (KC.out wa HA).mono ?_
              rintro e w4 ⟨rfl, h4⟩
              have d2 := h4.out.c2
              go_wp2
              all_goals go_ret
              all_goals exact ⟨by rw [HF.out, HG.out]; rfl, h4.out.below⟩
            · have hb : decide (p.wd ≤ 24) = false := decide_eq_false hy
              have HG : Hid (fitB 4 p.wd = false) := decide_eq_false (by omega)
              go_enter Tryz.func15, Tryz.ntmps15
              go_wp2_with fail
              generalize hwa : w.alloc _ = wa
              have HA : Hid (Bx w p ao cap wa) := by
                rw [← hwa]
                exact HB0.out
              clear hwa HB0
              refine (KC.out wa HA).mono ?_
              rintro e w4 ⟨rfl, h4⟩
              have d2 := h4.out.c2
              go_wp2
              all_goals go_ret
              all_goals exact ⟨by rw [HF.out, HG.out]; rfl, h4.out.below⟩
          · have ha : decide (8 ≤ p.wd) = false := decide_eq_false hx
            by_cases hy : p.wd ≤ 24
            · have hb : decide (p.wd ≤ 24) = true := decide_eq_true hy
              have HG : Hid (fitB 4 p.wd = true) := decide_eq_true (by omega)
              go_enter Tryz.func15, Tryz.ntmps15
              go_wp2_with fail
              generalize hwa : w.alloc _ = wa
              have HA : Hid (Bx w p ao cap wa) := by
                rw [← hwa]
                exact HB0.out
              clear hwa HB0
              refine (KC.out wa HA).mono ?_
              rintro e w4 ⟨rfl, h4⟩
              have d2 := h4.out.c2
              go_wp2
              all_goals go_ret
              all_goals exact ⟨by rw [HF.out, HG.out]; rfl, h4.out.below⟩
            · exact absurd hy (by omega)
        · clear h1 h5
          by_cases hx : 8 ≤ p.wd
          · have ha : decide (8 ≤ p.wd) = true := decide_eq_true hx
            by_cases hy : p.wd ≤ 24
            · have hb : decide (p.wd ≤ 24) = true := decide_eq_true hy
              have HG : Hid (fitB 5 p.wd = true) := decide_eq_true (by omega)
              go_enter Tryz.func15, Tryz.ntmps15
              go_wp2_with fail
              generalize hwa : w.alloc _ = wa
              have HA : Hid (Bx w p ao cap wa) := by
                rw [← hwa]
                exact HB0.out
              clear hwa HB0
              refine (KC.out wa HA).mono ?_
              rintro e w4 ⟨rfl, h4⟩
              have d2 := h4.out.c2
              go_wp2
              all_goals go_ret
              all_goals exact ⟨by rw [HF.out, HG.out]; rfl, h4.out.below⟩
            · have hb : decide (p.wd ≤ 24) = false := decide_eq_false hy
              have HG : Hid (fitB 5 p.wd = false) := decide_eq_false (by omega)
              go_enter Tryz.func15, Tryz.ntmps15
              go_wp2_with fail
              generalize hwa : w.alloc _ = wa
              have HA : Hid (Bx w p ao cap wa) := by
                rw [← hwa]
                exact HB0.out
              clear hwa HB0
              refine (KC.out wa HA).mono ?_
              rintro e w4 ⟨rfl, h4⟩
              have d2 := h4.out.c2
              go_wp2
              all_goals go_ret
              all_goals exact ⟨by rw [HF.out, HG.out]; rfl, h4.out.below⟩
          · have ha : decide (8 ≤ p.wd) = false := decide_eq_false hx
            by_cases hy : p.wd ≤ 24
            · have hb : decide (p.wd ≤ 24) = true := decide_eq_true hy
              have HG : Hid (fitB 5 p.wd = false) := decide_eq_false (by omega)
              go_enter Tryz.func15, Tryz.ntmps15
              go_wp2_with fail
              generalize hwa : w.alloc _ = wa
              have HA : Hid (Bx w p ao cap wa) := by
                rw [← hwa]
                exact HB0.out
              clear hwa HB0
              refine (KC.out wa HA).mono ?_
              rintro e w4 ⟨rfl, h4⟩
              have d2 := h4.out.c2
              go_wp2
              all_goals go_ret
              all_goals exact ⟨by rw [HF.out, HG.out]; rfl, h4.out.below⟩
            · exact absurd hy (by omega)
      · have HF : Hid (fitsN f p = checkN p) := by
          show _ = _
          unfold fitsN
          rw [hfb, if_neg hc]
          rfl
        clear hfb
        go_enter Tryz.func15, Tryz.ntmps15
        go_wp2_with fail
        generalize hwa : w.alloc _ = wa
        have HA : Hid (Bx w p ao cap wa) := by
          rw [← hwa]
          exact HB0.out
        clear hwa HB0
        refine (KC.out wa HA).mono ?_
        rintro e w4 ⟨rfl, h4⟩
        go_wp2
        go_ret
        exact ⟨by rw [HF.out]; rfl, h4.out.below⟩

end Go.Proofs.YtaepgjheknkojaaGreat

namespace Go.Proofs.YtaepgjheknkojaaGreat
open Go.RowKit
set_option linter.unusedSimpArgs false
set_option linter.unusedVariables false

theorem list_eq_of {α : Type} {l m : List α} {d : α} (hl : l.length = m.length) (h : ∀ j, j < l.length → l.getD j d = m.getD j d) : l = m := by
  apply List.ext_getElem hl
  intro j h1 h2
  have := h j h1
  rwa [List.getD_eq_getElem?_getD, List.getD_eq_getElem?_getD, List.getElem?_eq_getElem h1, List.getElem?_eq_getElem h2] at this

def sameB (p q : Pcm) : Bool := decide (p.rate = q.rate) && (decide (p.ch = q.ch) && (decide (p.wd = q.wd) && decide (p.pl = q.pl)))

set_option maxRecDepth 20000 in
set_option maxHeartbeats 1600000 in
theorem rints_spec (l m : List Int) (a b : Option Addr) (c d : Nat) (w : World) (hl : IntsAt w a l) (hm : IntsAt w b m) :
    Calls Tryz.prog 50 #[.slice a l.length c, .slice b m.length d] w fun e w' => e = .returned (.bool (decide (l = m))) ∧ ∃ n, w' = w.drewN n := by
  have h1 := hl.len
  have h2 := hm.len
  have HL : Hid (IntsAt w a l) := hl
  have HM : Hid (IntsAt w b m) := hm
  clear hl hm
  by_cases he : l.length = m.length
  · have hb : ((l.length : Int) == (m.length : Int)) = true := by rw [he]; exact beq_self_eq_true _
    go_enter Tryz.func50, Tryz.ntmps50
    go_wp2_with fail
    go_loopw [5] (fun t wr => ∃ k n : Nat, k ≤ l.length ∧ t = .int .i64 (k : Int) ∧ (∀ j, j < k → l.getD j 0 = m.getD j 0) ∧ wr = w.drewN n) (fun t _ => l.length - (intOf t).toNat)
    case atStart => exact ⟨0, 0, Nat.zero_le _, rfl, fun j hj => absurd hj (Nat.not_lt_zero _), rfl⟩
    case round =>
      obtain ⟨k, n, hk, rfl, hs, rfl⟩ := hrel
      have HS : Hid (∀ j, j < k → l.getD j 0 = m.getD j 0) := hs
      clear hs
      by_cases hlt : k < l.length
      · obtain ⟨b1, o1, rfl, q1, _, _⟩ := HL.out.at k hlt
        obtain ⟨b2, o2, rfl, q2, _, _⟩ := HM.out.at k (by omega)
        have r1 := q1 w (Below.refl _ _)
        have r2 := q2 w (Below.refl _ _)
        have hlt2 : k < m.length := by omega
        clear q1 q2
        by_cases hx : l.getD k 0 = m.getD k 0
        · have HX : Hid (∀ j, j = k → l.getD j 0 = m.getD j 0) := fun j hj => by rw [hj]; exact hx
          have hbx : (l.getD k 0 == m.getD k 0) = true := by rw [hx]; exact beq_self_eq_true _
          clear hx
          generalize l.getD k 0 = x at *
          generalize m.getD k 0 = y at *
          go_wp2_with fail
          go_quiet (fail)
          go_wp2_with fail
          go_roundw
          case rel =>
            refine ⟨k + 1, n + nq, by omega, by go_num, fun j hj => ?_, rfl⟩
            by_cases e : j = k
            · exact HX.out j e
            · exact HS.out j (by omega)
          case measure => simp [intOf]; omega
        · have HD : Hid (decide (l = m) = false) := decide_eq_false (fun e => hx (by rw [e]))
          have hbx : (l.getD k 0 == m.getD k 0) = false := beq_eq_false_iff_ne.2 hx
          clear hx
          generalize l.getD k 0 = x at *
          generalize m.getD k 0 = y at *
          go_wp2_with fail
          go_quiet (fail)
          go_wp2_with fail
          go_ret
          exact ⟨by rw [HD.out]; rfl, n + nq, by rw [World.drewN_drewN]⟩
      · have HD : Hid (decide (l = m) = true) := decide_eq_true (list_eq_of he (fun j hj => HS.out j (by omega)))
        go_wp2_with fail
        go_ret
        exact ⟨by rw [HD.out]; rfl, n, rfl⟩
  · have hb : ((l.length : Int) == (m.length : Int)) = false := beq_eq_false_iff_ne.2 (by omega)
    have HD : Hid (decide (l = m) = false) := decide_eq_false (fun e => he (by rw [e]))
    go_enter Tryz.func50, Tryz.ntmps50
    go_wp2_with fail
    go_ret
    exact ⟨by rw [HD.out]; rfl, 0, rfl⟩

set_option maxRecDepth 20000 in
set_option maxHeartbeats 1600000 in
theorem rplanes_spec (l m : List (List Int)) (a b : Option Addr) (c d : Nat) (w : World) (hl : RowsAt w a l) (hm : RowsAt w b m) :
    Calls Tryz.prog 22 #[.slice a l.length c, .slice b m.length d] w fun e w' => e = .returned (.bool (decide (l = m))) ∧ ∃ n, w' = w.drewN n := by
  have h1 := hl.len
  have h2 := hm.len
  have HL : Hid (RowsAt w a l) := hl
  have HM : Hid (RowsAt w b m) := hm
  clear hl hm
  by_cases he : l.length = m.length
  · have hb : ((l.length : Int) == (m.length : Int)) = true := by rw [he]; exact beq_self_eq_true _
    go_enter Tryz.func22, Tryz.ntmps22
    go_wp2_with fail
    go_loopw [5] (fun t wr => ∃ k n : Nat, k ≤ l.length ∧ t = .int .i64 (k : Int) ∧ (∀ j, j < k → l.getD j [] = m.getD j []) ∧ wr = w.drewN n) (fun t _ => l.length - (intOf t).toNat)
    case atStart => exact ⟨0, 0, Nat.zero_le _, rfl, fun j hj => absurd hj (Nat.not_lt_zero _), rfl⟩
    case round =>
      obtain ⟨k, n, hk, rfl, hs, hwr⟩ := hrel
      have HW : Hid (wr = w.drewN n) := hwr
      have hcel : ∀ x v, w.cell? x = some v → wr.cell? x = some v := fun x v hv => by rw [hwr]; exact hv
      have HHP : Hid (wr.heap = w.heap) := by
        show _ = _
        rw [hwr]
        rfl
      clear hwr
      have HS : Hid (∀ j, j < k → l.getD j [] = m.getD j []) := hs
      clear hs
      by_cases hlt : k < l.length
      · obtain ⟨b1, o1, a1, c1, rfl, l1, q1, i1⟩ := HL.out.at k hlt
        obtain ⟨b2, o2, a2, c2, rfl, l2, q2, i2⟩ := HM.out.at k (by omega)
        have r1 := hcel _ _ (q1 w (Below.refl _ _))
        have r2 := hcel _ _ (q2 w (Below.refl _ _))
        have hlt2 : k < m.length := by omega
        have KI : Hid (∀ wx : World, wx.heap = w.heap → Calls Tryz.prog 50 #[.slice a1 (l.getD k []).length c1, .slice a2 (m.getD k []).length c2] wx fun e w' => e = .returned (.bool (decide (l.getD k [] = m.getD k []))) ∧ ∃ n', w' = wx.drewN n') := fun wx hx => rints_spec _ _ a1 a2 c1 c2 wx (i1.keep (fun _ _ => by rw [hx])) (i2.keep (fun _ _ => by rw [hx]))
        clear q1 q2 i1 i2 hcel
        by_cases hx : l.getD k [] = m.getD k []
        · have HX : Hid (∀ j, j = k → l.getD j [] = m.getD j []) := fun j hj => by rw [hj]; exact hx
          rw [decide_eq_true hx] at KI
          clear hx
          generalize (l.getD k []).length = x at *
          generalize (m.getD k []).length = y at *
          go_wp2_with fail
          go_quiet ((go_at_call 50; refine Calls.quiet_of (KI.out _ ?_); exact HHP.out))
          go_wp2_with fail
          go_roundw
          case rel =>
            refine ⟨k + 1, n + nq, by omega, by go_num, fun j hj => ?_, by rw [HW.out, World.drewN_drewN]⟩
            by_cases e : j = k
            · exact HX.out j e
            · exact HS.out j (by omega)
          case measure => simp [intOf]; omega
        · have HD : Hid (decide (l = m) = false) := decide_eq_false (fun e => hx (by rw [e]))
          rw [decide_eq_false hx] at KI
          clear hx
          generalize (l.getD k []).length = x at *
          generalize (m.getD k []).length = y at *
          go_wp2_with fail
          go_quiet ((go_at_call 50; refine Calls.quiet_of (KI.out _ ?_); exact HHP.out))
          go_wp2_with fail
          go_ret
          exact ⟨by rw [HD.out]; rfl, n + nq, by rw [HW.out, World.drewN_drewN]⟩
      · have HD : Hid (decide (l = m) = true) := decide_eq_true (list_eq_of he (fun j hj => HS.out j (by omega)))
        clear hcel
        go_wp2_with fail
        go_ret
        exact ⟨by rw [HD.out]; rfl, n, HW.out⟩
  · have hb : ((l.length : Int) == (m.length : Int)) = false := beq_eq_false_iff_ne.2 (by omega)
    have HD : Hid (decide (l = m) = false) := decide_eq_false (fun e => he (by rw [e]))
    go_enter Tryz.func22, Tryz.ntmps22
    go_wp2_with fail
    go_ret
    exact ⟨by rw [HD.out]; rfl, 0, rfl⟩

set_option maxRecDepth 20000 in
set_option maxHeartbeats 3200000 in
theorem rsame_spec (p q : Pcm) (a b : Option Addr) (c d : Nat) (w : World) (hl : RowsAt w a p.pl) (hm : RowsAt w b q.pl) :
    Calls Tryz.prog 8 #[pcmV p a c, pcmV q b d] w fun e w' => e = .returned (.bool (sameB p q)) ∧ Below w.heap.size w w' := by
  have HB : Hid (Below w.heap.size w ((w.alloc (.cells (pcmC p a c) 24)).alloc (.cells (pcmC q b d) 24))) := ((Below.refl w.heap.size w).alloc (Nat.le_refl _) _).alloc (by simp) _
  have KP : Hid (∀ wx, Below w.heap.size w wx → Calls Tryz.prog 22 #[.slice a p.pl.length c, .slice b q.pl.length d] wx fun e w' => e = .returned (.bool (decide (p.pl = q.pl))) ∧ ∃ n, w' = wx.drewN n) := fun wx hx => rplanes_spec p.pl q.pl a b c d wx (hl.below hx) (hm.below hx)
  clear hl hm
  by_cases h0 : p.rate = q.rate
  · have b0 : (p.rate == q.rate) = true := by rw [h0]; exact beq_self_eq_true _
    by_cases h1 : p.ch = q.ch
    · have b1 : (p.ch == q.ch) = true := by rw [h1]; exact beq_self_eq_true _
      by_cases h2 : p.wd = q.wd
      · have b2 : (p.wd == q.wd) = true := by rw [h2]; exact beq_self_eq_true _
        have HS : Hid (sameB p q = decide (p.pl = q.pl)) := by
          show _ = _
          unfold sameB
          rw [decide_eq_true h0, decide_eq_true h1, decide_eq_true h2]
          rfl
        clear h0 h1 h2
        generalize decide (p.pl = q.pl) = B at *
        go_enter Tryz.func8, Tryz.ntmps8
        go_wp2_with fail
        refine (KP.out _ HB.out).mono ?_
        rintro e w4 ⟨rfl, n, rfl⟩
        go_wp2
        go_ret
        exact ⟨by rw [HS.out]; rfl, by have h := HB.out; exact ⟨h.os, h.tape, h.output, h.size, h.block⟩⟩
      · have b2 : (p.wd == q.wd) = false := beq_eq_false_iff_ne.2 h2
        have HS : Hid (sameB p q = false) := by
          show _ = _
          unfold sameB
          rw [decide_eq_false h2]
          simp
        clear h0 h1 h2
        go_enter Tryz.func8, Tryz.ntmps8
        go_wp2
        go_ret
        exact ⟨by rw [HS.out]; rfl, HB.out⟩
    · have b1 : (p.ch == q.ch) = false := beq_eq_false_iff_ne.2 h1
      have HS : Hid (sameB p q = false) := by
        show _ = _
        unfold sameB
        rw [decide_eq_false h1]
        simp
      clear h0 h1
      go_enter Tryz.func8, Tryz.ntmps8
      go_wp2
      go_ret
      exact ⟨by rw [HS.out]; rfl, HB.out⟩
  · have b0 : (p.rate == q.rate) = false := beq_eq_false_iff_ne.2 h0
    have HS : Hid (sameB p q = false) := by
      show _ = _
      unfold sameB
      rw [decide_eq_false h0]
      simp
    clear h0
    go_enter Tryz.func8, Tryz.ntmps8
    go_wp2
    go_ret
    exact ⟨by rw [HS.out]; rfl, HB.out⟩

end Go.Proofs.YtaepgjheknkojaaGreat
