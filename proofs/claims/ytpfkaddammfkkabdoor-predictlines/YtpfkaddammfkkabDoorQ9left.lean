/- Own text: the program's leftOver. -/
import Derived.Test.YtpfkaddammfkkabDoorQ9small
import Derived.Shelf.Abstract
namespace Go.Proofs.YtpfkaddammfkkabDoor
open Go.RowKit
set_option linter.unusedSimpArgs false
set_option linter.unusedVariables false
set_option maxRecDepth 20000 in
set_option maxHeartbeats 3200000 in
theorem qleft_spec (C l : List Int) (ca la : Option Addr) (cc lc sh b : Nat) (hsh : sh ≤ 31) (hCl : C.length ≤ l.length) (hlc : l.length ≤ lc) (w : World) (hL : Lin b C ca cc sh w) (hl : IntsAt w la l) :
    Calls Tryd.prog 8 #[linV b, .int .i64 (C.length : Int), .slice la l.length lc] w fun e w' => ∃ ga gc, e = .returned (.slice ga (leftN C sh l (l.length - C.length)).length gc) ∧ IntsAt w' ga (leftN C sh l (l.length - C.length)) ∧ Below w.heap.size w w' := by
  have h1 := hl.len
  have HL : Hid (IntsAt w la l) := hl
  have HLI : Hid (Lin b C ca cc sh w) := hL
  have hmk := make_ints (l.length - C.length) (by omega)
  have hsb : (l.length : Int) - (C.length : Int) = ((l.length - C.length : Nat) : Int) := by omega
  have HLL : Hid ((leftN C sh l (l.length - C.length)).length = l.length - C.length) := leftN_len _ _ _ _
  have HRG : Hid (Rng (leftN C sh l (l.length - C.length))) := leftN_rng _ _ _ _
  have HAT : Hid (∀ i, i < l.length - C.length → (leftN C sh l (l.length - C.length)).getD i 0 = wrap64 (l.getD (i + C.length) 0 - foreN C sh l (i + C.length))) := fun i hi => by
    rw [leftN_at C sh l _ i hi, Nat.add_comm]
  have HM : Hid (∀ L : List Int, L.length = l.length - C.length → Fill w w.heap.size L 0 (w.alloc (.cells (madeCells #[.int .i64 0] (l.length - C.length)) 3))) := fun L hLl => by
    have := Fill.made w w (Below.refl _ _) L
    rw [hLl] at this; exact this
  have KC : Hid (∀ i, i + C.length ≤ l.length → ∀ b1 o1, la = some ⟨b1, o1, none⟩ → ∀ pc wx, Below w.heap.size w wx → Calls Tryd.prog 16 (#[.slice (some ⟨b1, o1 + i, none⟩) C.length pc] ++ #[.pointer (some ⟨b, 0, none⟩), .pointer (some ⟨b + 1, 0, none⟩)]) wx fun e w' => e = .returned (.int .i64 (foreN C sh l (i + C.length))) ∧ w' = wx) := fun i hi b1 o1 hla pc wx hbx => by
    have hpl : ((l.drop i).take C.length).length = C.length := by rw [List.length_take, List.length_drop]; omega
    have hpt := hl.part i C.length hi (some ⟨b1, o1 + i, none⟩) (fun b off e _ => by rw [hla] at e; cases e; rfl)
    have hh := qclos_spec C ((l.drop i).take C.length) ca (some ⟨b1, o1 + i, none⟩) cc pc sh b hsh (by rw [hpl]; exact Nat.le_refl _) wx (hL.below hbx) (hpt.below hbx)
    rw [hpl, foreN_part] at hh
    exact hh
  clear hl hL
  generalize leftN C sh l (l.length - C.length) = L at *
  generalize hn : l.length - C.length = n at *
  generalize hq : C.length = q at *
  have HNQ : Hid (n + q = l.length) := by show _ = _; omega
  clear hn hq hCl
  go_enter Tryd.func8, Tryd.ntmps8
  go_wp2_with fail
  generalize hwa : w.alloc _ = wa at *
  have HA : Hid (Fill w w.heap.size L 0 wa) := HM.out L HLL.out
  clear hwa HM hmk
  go_loopw [8, 16] (fun s8 s16 wr => ∃ i : Nat, i ≤ n ∧ s16 = .int .i64 (i : Int) ∧ Fill w w.heap.size L i wr) (fun _ s16 _ => n - (intOf s16).toNat)
  case atStart => exact ⟨0, Nat.zero_le _, rfl, HA.out⟩
  case round =>
    clear HA
    obtain ⟨i, hi, rfl, hf⟩ := hrel
    have HA : Hid (Fill w w.heap.size L i wr) := hf
    clear hf
    by_cases hlt : i < n
    · obtain ⟨b1, o1, rfl, q1⟩ := HL.out.at (i + q) (by have := HNQ.out; omega)
      have HQ1 : Hid (∀ wx, Below w.heap.size w wx → wx.cell? ⟨b1, o1 + (i + q), none⟩ = some (.int .i64 (l.getD (i + q) 0))) := fun wx hh => q1 wx hh
      have HK : Hid (∀ pc wx, Below w.heap.size w wx → Calls Tryd.prog 16 (#[.slice (some ⟨b1, o1 + i, none⟩) q pc] ++ #[.pointer (some ⟨b, 0, none⟩), .pointer (some ⟨b + 1, 0, none⟩)]) wx fun e w' => e = .returned (.int .i64 (foreN C sh l (i + q))) ∧ w' = wx) := fun pc wx hh => KC.out i (by have := HNQ.out; omega) b1 o1 rfl pc wx hh
      have hv0 : Hid (wrap64 (l.getD (i + q) 0 - foreN C sh l (i + q)) = L.getD i 0) := (HAT.out i hlt).symm
      have HNX : Hid (Fill w w.heap.size L (i + 1) (wr.drew.setCell ⟨w.heap.size, i, none⟩ (.int .i64 (wrap64 (l.getD (i + q) 0 - foreN C sh l (i + q)))))) := by rw [hv0.out]; exact HA.out.drew.set (by rw [HLL.out]; exact hlt)
      have HD : Hid (Fill w w.heap.size L i wr.drew) := HA.out.drew
      have hpl : i + q < l.length := by have := HNQ.out; omega
      obtain ⟨p, hp⟩ : ∃ p : Nat, p = i + q := ⟨_, rfl⟩
      have hpi : (i : Int) + (q : Int) = (p : Int) := by omega
      have hpq : p - i = q := by omega
      rw [← hp] at HQ1 HK HNX hpl q1
      have hip : i ≤ p := by omega
      have hpl2 : (p : Int) < (l.length : Int) := by omega
      have hpc2 : (p : Int) ≤ (lc : Int) := by omega
      have hip2 : (i : Int) ≤ (p : Int) := by omega
      have hpi3 : (p : Int) - (i : Int) = (q : Int) := by omega
      have hwp : IntKind.i64.wrap (p : Int) = (p : Int) := by rw [IntKind.wrap_i64]; omega
      have hne : ¬ lc = i := by omega
      have HPE : Hid (p = i + q) := hp
      clear hp
      have HCL : Hid (∀ wx, Hid (Fill w w.heap.size L i wx) → (∃ v : Int, wx.cell? ⟨w.heap.size, i, none⟩ = some (.int .i64 v)) ∧ wx.frozen? ⟨w.heap.size, i, none⟩ = false) := fun wx hh => ⟨⟨_, hh.out.cell i (by rw [HLL.out]; exact hlt)⟩, hh.out.frozen _⟩
      clear q1 HA hv0
      generalize l.getD p 0 = x at *
      generalize foreN C sh l p = fo at *
      go_wp2_with fail
      refine wp_region_held_drew (S := fun wx => Below w.heap.size w wx) (by kernel_rfl) HD.out.below (fun hS => ?_)
      refine wpAnyH_take (i := 0) (v := .slice (some ⟨w.heap.size, 0, none⟩) n n) rfl (by kernel_rfl) (by kernel_rfl) (by kernel_rfl) (fun _ _ _ h => h) (Or.inl ⟨by rfl, fun w hSw => by go_simp⟩) hS ?_
      simp only [Act.put, List.getElem_toArray, List.getElem_cons_succ, List.getElem_cons_zero, List.setIfInBounds_toArray, List.set_cons_zero, List.set_cons_succ]
      refine wpAnyH_take (i := 1) (v := .int .i64 (i : Int)) rfl (by kernel_rfl) (by kernel_rfl) (by kernel_rfl) (fun _ _ _ h => h) (Or.inl ⟨by rfl, fun w hSw => by go_simp⟩) hS ?_
      simp only [Act.put, List.getElem_toArray, List.getElem_cons_succ, List.getElem_cons_zero, List.setIfInBounds_toArray, List.set_cons_zero, List.set_cons_succ]
      refine wpAnyH_take (i := 2) (v := .slice (some ⟨b1, o1, none⟩) l.length lc) rfl (by kernel_rfl) (by kernel_rfl) (by kernel_rfl) (fun _ _ _ h => h) (Or.inl ⟨by rfl, fun w hSw => by go_simp⟩) hS ?_
      simp only [Act.put, List.getElem_toArray, List.getElem_cons_succ, List.getElem_cons_zero, List.setIfInBounds_toArray, List.set_cons_zero, List.set_cons_succ]
      refine wpAnyH_take (i := 3) (v := .int .i64 (i : Int)) rfl (by kernel_rfl) (by kernel_rfl) (by kernel_rfl) (fun _ _ _ h => h) (Or.inl ⟨by rfl, fun w hSw => by go_simp⟩) hS ?_
      simp only [Act.put, List.getElem_toArray, List.getElem_cons_succ, List.getElem_cons_zero, List.setIfInBounds_toArray, List.set_cons_zero, List.set_cons_succ]
      refine wpAnyH_take (i := 4) (v := .int .i64 (q : Int)) rfl (by kernel_rfl) (by kernel_rfl) (by kernel_rfl) (fun _ _ _ h => h) (Or.inl ⟨by rfl, fun w hSw => by go_simp⟩) hS ?_
      simp only [Act.put, List.getElem_toArray, List.getElem_cons_succ, List.getElem_cons_zero, List.setIfInBounds_toArray, List.set_cons_zero, List.set_cons_succ]
      refine wpAnyH_take (i := 5) (v := .int .i64 (p : Int)) rfl (by kernel_rfl) (by kernel_rfl) (by kernel_rfl) (fun _ _ _ h => h) (Or.inl ⟨by rfl, fun w hSw => by go_simp⟩) hS ?_
      simp only [Act.put, List.getElem_toArray, List.getElem_cons_succ, List.getElem_cons_zero, List.setIfInBounds_toArray, List.set_cons_zero, List.set_cons_succ]
      refine wpAnyH_take (i := 6) (v := .pointer (some ⟨b1, o1 + p, none⟩)) rfl (by kernel_rfl) (by kernel_rfl) (by kernel_rfl) (fun _ _ _ h => h) (Or.inl ⟨by rfl, fun w hSw => by go_simp⟩) hS ?_
      simp only [Act.put, List.getElem_toArray, List.getElem_cons_succ, List.getElem_cons_zero, List.setIfInBounds_toArray, List.set_cons_zero, List.set_cons_succ]
      refine wpAnyH_take (i := 7) (v := .int .i64 x) rfl (by kernel_rfl) (by kernel_rfl) (by kernel_rfl) (fun _ _ _ h => h) (Or.inl ⟨by rfl, fun w hSw => by have r1 := HQ1.out w hSw; go_simp⟩) hS ?_
      simp only [Act.put, List.getElem_toArray, List.getElem_cons_succ, List.getElem_cons_zero, List.setIfInBounds_toArray, List.set_cons_zero, List.set_cons_succ]
      refine wpAnyH_take (i := 8) (v := linV b) rfl (by kernel_rfl) (by kernel_rfl) (by kernel_rfl) (fun _ _ _ h => h) (Or.inl ⟨by rfl, fun w hSw => by go_simp⟩) hS ?_
      simp only [Act.put, List.getElem_toArray, List.getElem_cons_succ, List.getElem_cons_zero, List.setIfInBounds_toArray, List.set_cons_zero, List.set_cons_succ]
      refine wpAnyH_take (i := 9) (v := .slice (some ⟨b1, o1, none⟩) l.length lc) rfl (by kernel_rfl) (by kernel_rfl) (by kernel_rfl) (fun _ _ _ h => h) (Or.inl ⟨by rfl, fun w hSw => by go_simp⟩) hS ?_
      simp only [Act.put, List.getElem_toArray, List.getElem_cons_succ, List.getElem_cons_zero, List.setIfInBounds_toArray, List.set_cons_zero, List.set_cons_succ]
      refine wpAnyH_take (i := 10) (v := .int .i64 (i : Int)) rfl (by kernel_rfl) (by kernel_rfl) (by kernel_rfl) (fun _ _ _ h => h) (Or.inl ⟨by rfl, fun w hSw => by go_simp⟩) hS ?_
      simp only [Act.put, List.getElem_toArray, List.getElem_cons_succ, List.getElem_cons_zero, List.setIfInBounds_toArray, List.set_cons_zero, List.set_cons_succ]
      refine wpAnyH_take (i := 11) (v := .int .i64 (i : Int)) rfl (by kernel_rfl) (by kernel_rfl) (by kernel_rfl) (fun _ _ _ h => h) (Or.inl ⟨by rfl, fun w hSw => by go_simp⟩) hS ?_
      simp only [Act.put, List.getElem_toArray, List.getElem_cons_succ, List.getElem_cons_zero, List.setIfInBounds_toArray, List.set_cons_zero, List.set_cons_succ]
      refine wpAnyH_take (i := 12) (v := .int .i64 (q : Int)) rfl (by kernel_rfl) (by kernel_rfl) (by kernel_rfl) (fun _ _ _ h => h) (Or.inl ⟨by rfl, fun w hSw => by go_simp⟩) hS ?_
      simp only [Act.put, List.getElem_toArray, List.getElem_cons_succ, List.getElem_cons_zero, List.setIfInBounds_toArray, List.set_cons_zero, List.set_cons_succ]
      refine wpAnyH_take (i := 13) (v := .int .i64 (p : Int)) rfl (by kernel_rfl) (by kernel_rfl) (by kernel_rfl) (fun _ _ _ h => h) (Or.inl ⟨by rfl, fun w hSw => by go_simp⟩) hS ?_
      simp only [Act.put, List.getElem_toArray, List.getElem_cons_succ, List.getElem_cons_zero, List.setIfInBounds_toArray, List.set_cons_zero, List.set_cons_succ]
      refine wpAnyH_take (i := 14) (v := .slice (some ⟨b1, o1 + i, none⟩) q (lc - i)) rfl (by kernel_rfl) (by kernel_rfl) (by kernel_rfl) (fun _ _ _ h => h) (Or.inl ⟨by rfl, fun w hSw => by go_simp⟩) hS ?_
      simp only [Act.put, List.getElem_toArray, List.getElem_cons_succ, List.getElem_cons_zero, List.setIfInBounds_toArray, List.set_cons_zero, List.set_cons_succ]
      refine wpAnyH_ready (rs := [15]) (by kernel_rfl) (by simp) ?_
      refine AllReadyH.cons rfl (fun K hK => ?_) AllReadyH.nil
      go_simp
      refine (HK.out _ _ hS).mono ?_
      rintro e w5 ⟨rfl, hw5⟩
      subst hw5
      obtain ⟨⟨v5, y5⟩, z5⟩ := HCL.out _ HD
      refine hK.out _ _ hS (fun hS5 => ?_)
      clear hK K
      try simp only [Act.put, List.getElem_toArray, List.getElem_cons_succ, List.getElem_cons_zero, List.setIfInBounds_toArray, List.set_cons_zero, List.set_cons_succ]
      refine wpAnyH_take (i := 16) (v := .int .i64 (wrap64 (x - fo))) rfl (by kernel_rfl) (by kernel_rfl) (by kernel_rfl) (fun _ _ _ h => h) (Or.inl ⟨by rfl, fun w hSw => by go_simp; exact wrap_is _⟩) hS5 ?_
      simp only [Act.put, List.getElem_toArray, List.getElem_cons_succ, List.getElem_cons_zero, List.setIfInBounds_toArray, List.set_cons_zero, List.set_cons_succ]
      refine wpAnyH_take (i := 17) (v := .pointer (some ⟨w.heap.size, i, none⟩)) rfl (by kernel_rfl) (by kernel_rfl) (by kernel_rfl) (fun _ _ _ h => h) (Or.inl ⟨by rfl, fun w hSw => by go_simp⟩) hS5 ?_
      simp only [Act.put, List.getElem_toArray, List.getElem_cons_succ, List.getElem_cons_zero, List.setIfInBounds_toArray, List.set_cons_zero, List.set_cons_succ]
      refine wpAnyH_ready (rs := [18]) (by kernel_rfl) (by simp) ?_
      refine AllReadyH.cons rfl (fun K hK => ?_) AllReadyH.nil
      go_simp
      refine hK.out _ _ HNX.out.below (fun hS6 => ?_)
      clear hK K
      refine wpAnyH_done (by kernel_rfl) ?_ _

      go_wp2_with fail
      go_roundw
      case rel => exact ⟨i + 1, by omega, by go_num, HNX.out⟩
      case measure => simp [intOf]; omega
    · have hin : i = n := by omega
      subst hin
      have HI : Hid (IntsAt wr (some ⟨w.heap.size, 0, none⟩) L ∧ Below w.heap.size w wr) := ⟨Fill.ints (by rw [HLL.out]; exact HA.out) (by rw [HLL.out]; omega) HRG.out, HA.out.below⟩
      clear HA
      go_wp2_with fail
      go_ret
      exact ⟨_, _, by rw [HLL.out]; rfl, HI.out.1, HI.out.2⟩

end Go.Proofs.YtpfkaddammfkkabDoor
