/- Own text: the document's left. -/
import Derived.Test.YtpfkaddammfkkaaDoorR9fore
namespace Go.Proofs.YtpfkaddammfkkaaDoor
open Go.RowKit
set_option linter.unusedSimpArgs false
set_option linter.unusedVariables false
set_option maxRecDepth 20000 in
set_option maxHeartbeats 3200000 in
theorem xleft_spec (C l : List Int) (ca la : Option Addr) (cc lc : Nat) (sh : Nat) (hsh : sh ≤ 31) (hCl : C.length ≤ l.length) (w : World) (hC : IntsAt w ca C) (hl : IntsAt w la l) :
    Calls Tryd.prog 32 #[.slice ca C.length cc, .int .i64 (sh : Int), .slice la l.length lc] w fun e w' => ∃ v, e = .returned v ∧ Out w v (leftN C sh l (l.length - C.length)) w' := by
  obtain ⟨i3, h3a, h3b, h3c, h3d⟩ := int_info
  have h1 := hl.len
  have KF : Hid (∀ (a : Nat) wx, C.length ≤ a → a ≤ l.length → Below w.heap.size w wx → Calls Tryd.prog 48 #[.slice ca C.length cc, .int .i64 (sh : Int), .slice la l.length lc, .int .i64 (a : Int)] wx fun e w' => e = .returned (.int .i64 (foreN C sh l a)) ∧ ∃ n, w' = wx.drewN n) := fun a wx g1 g2 hb => xfore_spec C l ca la cc lc sh a hsh g1 g2 wx (hC.below hb) (hl.below hb)
  have HL : Hid (IntsAt w la l) := hl
  clear hC hl
  go_enter Tryd.func32, Tryd.ntmps32
  go_wp2_with fail
  go_loopw [7, 8] (fun s t wr => ∃ (i : Nat) (v : Value), C.length ≤ i ∧ i ≤ l.length ∧ t = .int .i64 (i : Int) ∧ s = v ∧ Out w v (leftN C sh l (i - C.length)) wr) (fun _ t _ => l.length - (intOf t).toNat)
  case atStart => exact ⟨C.length, _, Nat.le_refl _, hCl, rfl, rfl, by rw [Nat.sub_self]; exact Out.nil w⟩
  case round =>
    obtain ⟨i, v, hCi, hi, rfl, rfl, hout⟩ := hrel
    obtain ⟨oa, oc, rfl⟩ := hout.shape
    by_cases hlt : i < l.length
    · obtain ⟨b1, o1, rfl, q1⟩ := HL.out.at i hlt
      have HN : Hid (leftN C sh l (i + 1 - C.length) = leftN C sh l (i - C.length) ++ [wrap64 (l.getD i 0 - foreN C sh l i)]) := by
        show _ = _
        rw [show i + 1 - C.length = (i - C.length) + 1 by omega]
        show leftN C sh l (i - C.length) ++ [wrap64 (l.getD (C.length + (i - C.length)) 0 - foreN C sh l (C.length + (i - C.length)))] = _
        rw [show C.length + (i - C.length) = i by omega]
      have hxl := leftN_len C sh l (i - C.length)
      have hx5 : (leftN C sh l (i - C.length)).length ≤ 17592186044415 := by omega
      clear hxl
      generalize leftN C sh l (i - C.length) = xs at *
      generalize l.getD i 0 = x at *
      have HO : Hid (Out w (.slice oa xs.length oc) xs wr) := hout
      clear hout
      go_wp2_with fail
      refine wp_region_held_drew (S := fun wx => Below w.heap.size w wx) (by kernel_rfl) (HO.out.drew.below) (fun hS => ?_)
      refine wpAnyH_take (i := 0) (v := .slice oa xs.length oc) rfl (by kernel_rfl) (by kernel_rfl) (by kernel_rfl) (fun _ _ _ h => h) (Or.inl ⟨by rfl, fun w hSw => by go_simp⟩) hS ?_
      simp only [Act.put, List.getElem_toArray, List.getElem_cons_succ, List.getElem_cons_zero, List.setIfInBounds_toArray, List.set_cons_zero, List.set_cons_succ]
      refine wpAnyH_take (i := 1) (v := .slice (some ⟨b1, o1, none⟩) l.length lc) rfl (by kernel_rfl) (by kernel_rfl) (by kernel_rfl) (fun _ _ _ h => h) (Or.inl ⟨by rfl, fun w hSw => by go_simp⟩) hS ?_
      simp only [Act.put, List.getElem_toArray, List.getElem_cons_succ, List.getElem_cons_zero, List.setIfInBounds_toArray, List.set_cons_zero, List.set_cons_succ]
      refine wpAnyH_take (i := 2) (v := .int .i64 (i : Int)) rfl (by kernel_rfl) (by kernel_rfl) (by kernel_rfl) (fun _ _ _ h => h) (Or.inl ⟨by rfl, fun w hSw => by go_simp⟩) hS ?_
      simp only [Act.put, List.getElem_toArray, List.getElem_cons_succ, List.getElem_cons_zero, List.setIfInBounds_toArray, List.set_cons_zero, List.set_cons_succ]
      refine wpAnyH_take (i := 3) (v := .pointer (some ⟨b1, o1 + i, none⟩)) rfl (by kernel_rfl) (by kernel_rfl) (by kernel_rfl) (fun _ _ _ h => h) (Or.inl ⟨by rfl, fun w hSw => by go_simp⟩) hS ?_
      simp only [Act.put, List.getElem_toArray, List.getElem_cons_succ, List.getElem_cons_zero, List.setIfInBounds_toArray, List.set_cons_zero, List.set_cons_succ]
      refine wpAnyH_take (i := 4) (v := .int .i64 x) rfl (by kernel_rfl) (by kernel_rfl) (by kernel_rfl) (fun _ _ _ h => h) (Or.inl ⟨by rfl, fun w hSw => by have r1 := q1 w hSw; go_simp⟩) hS ?_
      simp only [Act.put, List.getElem_toArray, List.getElem_cons_succ, List.getElem_cons_zero, List.setIfInBounds_toArray, List.set_cons_zero, List.set_cons_succ]
      refine wpAnyH_take (i := 5) (v := .slice ca C.length cc) rfl (by kernel_rfl) (by kernel_rfl) (by kernel_rfl) (fun _ _ _ h => h) (Or.inl ⟨by rfl, fun w hSw => by go_simp⟩) hS ?_
      simp only [Act.put, List.getElem_toArray, List.getElem_cons_succ, List.getElem_cons_zero, List.setIfInBounds_toArray, List.set_cons_zero, List.set_cons_succ]
      refine wpAnyH_take (i := 6) (v := .int .i64 (sh : Int)) rfl (by kernel_rfl) (by kernel_rfl) (by kernel_rfl) (fun _ _ _ h => h) (Or.inl ⟨by rfl, fun w hSw => by go_simp⟩) hS ?_
      simp only [Act.put, List.getElem_toArray, List.getElem_cons_succ, List.getElem_cons_zero, List.setIfInBounds_toArray, List.set_cons_zero, List.set_cons_succ]
      refine wpAnyH_take (i := 7) (v := .slice (some ⟨b1, o1, none⟩) l.length lc) rfl (by kernel_rfl) (by kernel_rfl) (by kernel_rfl) (fun _ _ _ h => h) (Or.inl ⟨by rfl, fun w hSw => by go_simp⟩) hS ?_
      simp only [Act.put, List.getElem_toArray, List.getElem_cons_succ, List.getElem_cons_zero, List.setIfInBounds_toArray, List.set_cons_zero, List.set_cons_succ]
      refine wpAnyH_take (i := 8) (v := .int .i64 (i : Int)) rfl (by kernel_rfl) (by kernel_rfl) (by kernel_rfl) (fun _ _ _ h => h) (Or.inl ⟨by rfl, fun w hSw => by go_simp⟩) hS ?_
      simp only [Act.put, List.getElem_toArray, List.getElem_cons_succ, List.getElem_cons_zero, List.setIfInBounds_toArray, List.set_cons_zero, List.set_cons_succ]
      refine wpAnyH_ready (rs := [9]) (by kernel_rfl) (by simp) ?_
      refine AllReadyH.cons rfl (fun K hK => ?_) AllReadyH.nil
      go_simp
      refine (KF.out i _ hCi (by omega) hS).mono ?_
      rintro e w5 ⟨rfl, n5, rfl⟩
      have HO5 : Hid (Out w (.slice oa xs.length oc) xs (wr.drew.drewN n5)) := HO.out.drew.low (below_drewN _ _)
      generalize hw5 : wr.drew.drewN n5 = w5 at *
      clear hw5
      generalize foreN C sh l i = fo at *
      refine hK.out _ _ (HO5.out.below) (fun hS9 => ?_)
      clear hK K
      refine wpAnyH_take (i := 10) (v := .int .i64 (wrap64 (x - fo))) rfl (by kernel_rfl) (by kernel_rfl) (by kernel_rfl) (fun _ _ _ h => h) (Or.inl ⟨by rfl, fun w hSw => by go_simp; exact wrap_is _⟩) hS9 ?_
      simp only [Act.put, List.getElem_toArray, List.getElem_cons_succ, List.getElem_cons_zero, List.setIfInBounds_toArray, List.set_cons_zero, List.set_cons_succ]
      refine wpAnyH_ready (rs := [11]) (by kernel_rfl) (by simp) ?_
      refine AllReadyH.cons rfl (fun K hK => ?_) AllReadyH.nil
      go_simp
      refine hK.out _ _ ((HO5.out.alloc _).below) (fun hSbA => ?_)
      clear hK K
      try simp only [Act.put, List.getElem_toArray, List.getElem_cons_succ, List.getElem_cons_zero, List.setIfInBounds_toArray, List.set_cons_zero, List.set_cons_succ]
      refine wpAnyH_ready (rs := [12]) (by kernel_rfl) (by simp) ?_
      refine AllReadyH.cons rfl (fun K hK => ?_) AllReadyH.nil
      refine step_append_lies _ (by rfl) _ _ _ (by rfl) w.heap.size 3 i3 (.int .i64 0) 1 8 undI3 h3a h3b h3c h3d rfl (by decide) (.slice oa xs.length oc) xs.length (intsC xs) (by rfl) (HO5.out.alloc _).own ⟨w5.heap.size, 0, none⟩ 1 1 [.int .i64 (wrap64 (x - fo))] (by rfl) (by rfl) (World.news_of_block (cs := #[.int .i64 (wrap64 (x - fo))]) (t := 3) (fr := (0, 0)) (tmp_new w5 _)) (one_int _ _) (by decide) (by unfold maxLen; omega) (by omega) (HO5.out.alloc _).below.size _ rfl ?_
      intro gA cA wA ownA groA hatA hltA
      have HPA : Hid (Out w (.slice (some ⟨gA, 0, none⟩) (xs.length + 1) cA) (xs ++ [(wrap64 (x - fo))]) wA) := (HO5.out.alloc _).push ownA groA
      clear ownA groA hatA hltA
      refine hK.out _ _ (HPA.out.below) (fun hSaA => ?_)
      clear hK K
      try simp only [Act.put, List.getElem_toArray, List.getElem_cons_succ, List.getElem_cons_zero, List.setIfInBounds_toArray, List.set_cons_zero, List.set_cons_succ]
      refine wpAnyH_take (i := 13) (v := .slice (some ⟨gA, 0, none⟩) (xs.length + 1) cA) rfl (by kernel_rfl) (by kernel_rfl) (by kernel_rfl) (fun _ _ _ h => h) (Or.inl ⟨by rfl, fun w hSw => by go_simp⟩) hSaA ?_
      simp only [Act.put, List.getElem_toArray, List.getElem_cons_succ, List.getElem_cons_zero, List.setIfInBounds_toArray, List.set_cons_zero, List.set_cons_succ]
      refine wpAnyH_done (by kernel_rfl) ?_ _

      go_wp2_with fail
      go_roundw
      case rel => exact ⟨i + 1, _, by omega, by omega, by go_num, rfl, by rw [HN.out]; exact HPA.out⟩
      case measure => simp [intOf]; omega
    · have hie : i = l.length := by omega
      subst hie
      have HO : Hid (Out w (.slice oa (leftN C sh l (l.length - C.length)).length oc) (leftN C sh l (l.length - C.length)) wr) := hout
      clear hout
      go_wp2_with fail
      go_ret
      exact ⟨_, rfl, HO.out⟩

end Go.Proofs.YtpfkaddammfkkaaDoor
