/- Own text: lists through a new chain of the program's. -/
import Derived.Test.YtecdcmjeiogenaaQ17thr
namespace Go.Proofs.Ytecdcmjeiogenaa
open Go.RowKit
set_option linter.unusedSimpArgs false
set_option linter.unusedVariables false
attribute [local go_sem] Oper.semAt_some

set_option maxRecDepth 20000 in
set_option maxHeartbeats 3200000 in
theorem p_list_cf (level : Int) (l : List Int) (lo : Option Addr) (lc : Nat) (w : World) (h : IntsAt w lo l) (hc : l.length ≤ lc) : Calls Try.prog 8 #[.int .i64 level, .slice lo l.length lc] w (RetL (allC false level l) w) := by
  have HL := hid h
  clear h hc
  rcases hn : newC level with _ | c
  · have HA : Hid (allC false level l = none) := by show allC _ _ _ = none; unfold allC; rw [hn]
    rw [HA.out]
    go_enter Try.func8, Try.ntmps8
    go_wp2_with fail
    refine (p_new_no level hn _).mono ?_
    rintro e w2 ⟨rfl, hb⟩
    go_wp2_with fail
    refine (p_thr_nil_cf l lo lc _).mono ?_
    rintro e w3 ⟨rfl, rfl⟩
    go_wp2_with fail
    go_ret2
    exact ⟨none, 0, rfl, IntsAt.nil _, Nat.le_refl _, hb⟩
  · by_cases ha : ∀ x ∈ l, In32 x
    · have HA : Hid (allC false level l = some (runC false c l)) := by show allC _ _ _ = _; unfold allC; rw [hn]; exact if_pos ha
      rw [HA.out]
      have HI := hid ha
      clear ha
      go_enter Try.func8, Try.ntmps8
      go_wp2_with fail
      refine (p_new level c _ hn).mono ?_
      rintro e w2 ⟨p, fp, rfl, hv, hf, hb⟩
      have HV : Hid (VCh w2 p fp c ∧ (∀ k, fp k → w.heap.size ≤ k ∧ k < w2.heap.size) ∧ Below w.heap.size w w2) := ⟨hv, hf, hb⟩
      clear hv hf hb
      go_wp2_with fail
      refine (p_thr_cf p fp c l lo lc w2 (fun w' hs => HL.out.below (HV.out.2.2.trans (hs.below HV.out.2.2.size (fun i hi q => by have := (HV.out.2.1 i q).1; omega)))) HI.out HV.out.1 (fun k q => (HV.out.2.1 k q).2)).mono ?_
      rintro e w3 ⟨la, lc2, rfl, h1, h2, h3⟩
      have H3 : Hid (IntsAt w3 la (runC false c l) ∧ (runC false c l).length ≤ lc2 ∧ Below w.heap.size w w3) := ⟨h1, h2, HV.out.2.2.trans (h3.below HV.out.2.2.size (fun i hi q => by have := (HV.out.2.1 i q).1; omega))⟩
      clear h1 h2 h3
      go_wp2_with fail
      go_ret2
      exact ⟨la, lc2, rfl, H3.out.1, H3.out.2.1, H3.out.2.2⟩
    · have HA : Hid (allC false level l = none) := by show allC _ _ _ = none; unfold allC; rw [hn]; exact if_neg ha
      rw [HA.out]
      have HI := hid ha
      clear ha
      go_enter Try.func8, Try.ntmps8
      go_wp2_with fail
      refine (p_new level c _ hn).mono ?_
      rintro e w2 ⟨p, fp, rfl, hv, hf, hb⟩
      have HV : Hid (IntsAt w2 lo l ∧ Below w.heap.size w w2) := ⟨HL.out.below hb, hb⟩
      clear hv hf hb
      go_wp2_with fail
      refine (p_thr_bad_cf p l lo lc _ HV.out.1 HI.out).mono ?_
      rintro e w3 ⟨rfl, rfl⟩
      go_wp2_with fail
      go_ret2
      exact ⟨none, 0, rfl, IntsAt.nil _, Nat.le_refl _, HV.out.2⟩

set_option maxRecDepth 20000 in
set_option maxHeartbeats 3200000 in
theorem p_list_ci (level : Int) (l : List Int) (lo : Option Addr) (lc : Nat) (w : World) (h : IntsAt w lo l) (hc : l.length ≤ lc) : Calls Try.prog 10 #[.int .i64 level, .slice lo l.length lc] w (RetL (allC true level l) w) := by
  have HL := hid h
  clear h hc
  rcases hn : newC level with _ | c
  · have HA : Hid (allC true level l = none) := by show allC _ _ _ = none; unfold allC; rw [hn]
    rw [HA.out]
    go_enter Try.func10, Try.ntmps10
    go_wp2_with fail
    refine (p_new_no level hn _).mono ?_
    rintro e w2 ⟨rfl, hb⟩
    go_wp2_with fail
    refine (p_thr_nil_ci l lo lc _).mono ?_
    rintro e w3 ⟨rfl, rfl⟩
    go_wp2_with fail
    go_ret2
    exact ⟨none, 0, rfl, IntsAt.nil _, Nat.le_refl _, hb⟩
  · by_cases ha : ∀ x ∈ l, In32 x
    · have HA : Hid (allC true level l = some (runC true c l)) := by show allC _ _ _ = _; unfold allC; rw [hn]; exact if_pos ha
      rw [HA.out]
      have HI := hid ha
      clear ha
      go_enter Try.func10, Try.ntmps10
      go_wp2_with fail
      refine (p_new level c _ hn).mono ?_
      rintro e w2 ⟨p, fp, rfl, hv, hf, hb⟩
      have HV : Hid (VCh w2 p fp c ∧ (∀ k, fp k → w.heap.size ≤ k ∧ k < w2.heap.size) ∧ Below w.heap.size w w2) := ⟨hv, hf, hb⟩
      clear hv hf hb
      go_wp2_with fail
      refine (p_thr_ci p fp c l lo lc w2 (fun w' hs => HL.out.below (HV.out.2.2.trans (hs.below HV.out.2.2.size (fun i hi q => by have := (HV.out.2.1 i q).1; omega)))) HI.out HV.out.1 (fun k q => (HV.out.2.1 k q).2)).mono ?_
      rintro e w3 ⟨la, lc2, rfl, h1, h2, h3⟩
      have H3 : Hid (IntsAt w3 la (runC true c l) ∧ (runC true c l).length ≤ lc2 ∧ Below w.heap.size w w3) := ⟨h1, h2, HV.out.2.2.trans (h3.below HV.out.2.2.size (fun i hi q => by have := (HV.out.2.1 i q).1; omega))⟩
      clear h1 h2 h3
      go_wp2_with fail
      go_ret2
      exact ⟨la, lc2, rfl, H3.out.1, H3.out.2.1, H3.out.2.2⟩
    · have HA : Hid (allC true level l = none) := by show allC _ _ _ = none; unfold allC; rw [hn]; exact if_neg ha
      rw [HA.out]
      have HI := hid ha
      clear ha
      go_enter Try.func10, Try.ntmps10
      go_wp2_with fail
      refine (p_new level c _ hn).mono ?_
      rintro e w2 ⟨p, fp, rfl, hv, hf, hb⟩
      have HV : Hid (IntsAt w2 lo l ∧ Below w.heap.size w w2) := ⟨HL.out.below hb, hb⟩
      clear hv hf hb
      go_wp2_with fail
      refine (p_thr_bad_ci p l lo lc _ HV.out.1 HI.out).mono ?_
      rintro e w3 ⟨rfl, rfl⟩
      go_wp2_with fail
      go_ret2
      exact ⟨none, 0, rfl, IntsAt.nil _, Nat.le_refl _, HV.out.2⟩

end Go.Proofs.Ytecdcmjeiogenaa
