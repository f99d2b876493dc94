/- Own text: the document's whole and weights. -/
import Derived.Test.YtpfkaddammfkkaaDoorR9left
namespace Go.Proofs.YtpfkaddammfkkaaDoor
open Go.RowKit
set_option linter.unusedSimpArgs false
set_option linter.unusedVariables false
set_option maxRecDepth 20000 in
set_option maxHeartbeats 3200000 in
theorem xwhole_spec (C warm l : List Int) (ca wa la : Option Addr) (cc wc lc : Nat) (sh : Nat) (hsh : sh ≤ 31) (hCw : C.length = warm.length) (hw32 : warm.length ≤ 32) (hl9 : l.length ≤ 17592186043904) (hwn : wa = none → wc = 0) (w : World) (hC : IntsAt w ca C) (hw : IntsAt w wa warm) (hl : IntsAt w la l) :
    Calls Tryd.prog 35 #[.slice ca C.length cc, .int .i64 (sh : Int), .slice wa warm.length wc, .slice la l.length lc] w fun e w' => ∃ ao ac, e = .returned (.slice ao (wholeN C sh warm l l.length).length ac) ∧ IntsAt w' ao (wholeN C sh warm l l.length) ∧ Below w.heap.size w w' := by
  obtain ⟨i3, h3a, h3b, h3c, h3d⟩ := int_info
  have HC : Hid (IntsAt w ca C) := hC
  have HL : Hid (IntsAt w la l) := hl
  have HWI : Hid (IntsAt w wa warm) := hw
  have hz : wa = none → warm.length = 0 ∧ wc = 0 := fun e => by
    refine ⟨?_, hwn e⟩
    rcases Nat.eq_zero_or_pos warm.length with h | h
    · exact h
    · obtain ⟨b, o, h2⟩ := hw.addr h; rw [e] at h2; cases h2
  have HCW : Hid (C.length = warm.length) := hCw
  have HRG : Hid (∀ n, ∀ x ∈ wholeN C sh warm l n, -9223372036854775808 ≤ x ∧ x ≤ 9223372036854775807) := fun n => wholeN_rng C sh warm l hw.num n
  clear hC hl hw hCw
  go_enter Tryd.func35, Tryd.ntmps35
  go_wp2_with (at_builtin; refine wpList_append_src _ rfl (.const (.slice none 0 0)) (.tmp 11) 22 rfl w.heap.size 3 i3 (.int .i64 0) 8 undI3 h3a h3b h3c h3d rfl (.slice none 0 0) 0 [] rfl (World.ownsRow_nil _ _ _ _) wa warm.length wc (intsC warm) rfl hz (intsC_length warm) HWI.out.news (intsC_one warm) (by unfold maxLen; omega) (by omega) (Nat.le_refl _) ?_; intro v0 w0 own0 gro0)
  have HO0 : Hid (Out w v0 warm w0) := by
    refine ⟨?_, ⟨gro0.os, gro0.tape, gro0.output, gro0.size, fun k hk => gro0.block k hk (fun e => by cases e)⟩⟩
    have := own0
    rw [List.nil_append, Nat.zero_add] at this
    exact this
  clear own0 gro0
  go_wp2_with fail
  go_loopw [9, 10] (fun s t wr => ∃ (i : Nat) (v : Value), i ≤ l.length ∧ t = .int .i64 (i : Int) ∧ s = v ∧ Out w v (wholeN C sh warm l i) wr) (fun _ t _ => l.length - (intOf t).toNat)
  case atStart => exact ⟨0, _, Nat.zero_le _, rfl, rfl, HO0.out⟩
  case round =>
    clear HO0
    obtain ⟨i, v, hi, rfl, rfl, hout⟩ := hrel
    obtain ⟨oa, oc, rfl⟩ := hout.shape
    have hwl := wholeN_len C sh warm l i
    by_cases hlt : i < l.length
    · obtain ⟨b1, o1, rfl, q1⟩ := HL.out.at i hlt
      have HN : Hid (wholeN C sh warm l (i + 1) = wholeN C sh warm l i ++ [wrap64 (l.getD i 0 + foreN C sh (wholeN C sh warm l i) (wholeN C sh warm l i).length)]) := by
        show _ = _
        rw [hwl]; rfl
      have hx5 : (wholeN C sh warm l i).length ≤ 17592186044000 := by omega
      have hxc : C.length ≤ (wholeN C sh warm l i).length := by have := HCW.out; omega
      have kf := xfore_spec C (wholeN C sh warm l i) ca oa cc oc sh (wholeN C sh warm l i).length hsh hxc (Nat.le_refl _) wr.drew (HC.out.below hout.drew.below) (hout.drew.ints (by omega) (HRG.out i))
      clear hwl hxc
      generalize wholeN C sh warm l i = xs at *
      generalize l.getD i 0 = x at *
      have HO : Hid (Out w (.slice oa xs.length oc) xs wr) := hout
      clear hout
      go_wp2_with fail
      refine wp_region_held_drew (S := fun wx => Below w.heap.size w wx) (by kernel_rfl) (HO.out.drew.below) (fun hS => ?_)
      refine wpAnyH_take (i := 0) (v := .slice oa xs.length oc) rfl (by kernel_rfl) (by kernel_rfl) (by kernel_rfl) (fun _ _ _ h => h) (Or.inl ⟨by rfl, fun w hSw => by go_simp⟩) hS ?_
      simp only [Act.put, List.getElem_toArray, List.getElem_cons_succ, List.getElem_cons_zero, List.setIfInBounds_toArray, List.set_cons_zero, List.set_cons_succ]
      refine wpAnyH_take (i := 1) (v := .slice (some ⟨b1, o1, none⟩) l.length lc) rfl (by kernel_rfl) (by kernel_rfl) (by kernel_rfl) (fun _ _ _ h => h) (Or.inl ⟨by rfl, fun w hSw => by go_simp⟩) hS ?_
      simp only [Act.put, List.getElem_toArray, List.getElem_cons_succ, List.getElem_cons_zero, List.setIfInBounds_toArray, List.set_cons_zero, List.set_cons_succ]
      refine wpAnyH_take (i := 2) (v := .int .i64 (i : Int)) rfl (by kernel_rfl) (by kernel_rfl) (by kernel_rfl) (fun _ _ _ h => h) (Or.inl ⟨by rfl, fun w hSw => by go_simp⟩) hS ?_
      simp only [Act.put, List.getElem_toArray, List.getElem_cons_succ, List.getElem_cons_zero, List.setIfInBounds_toArray, List.set_cons_zero, List.set_cons_succ]
      refine wpAnyH_take (i := 3) (v := .pointer (some ⟨b1, o1 + i, none⟩)) rfl (by kernel_rfl) (by kernel_rfl) (by kernel_rfl) (fun _ _ _ h => h) (Or.inl ⟨by rfl, fun w hSw => by go_simp⟩) hS ?_
      simp only [Act.put, List.getElem_toArray, List.getElem_cons_succ, List.getElem_cons_zero, List.setIfInBounds_toArray, List.set_cons_zero, List.set_cons_succ]
      refine wpAnyH_take (i := 4) (v := .int .i64 x) rfl (by kernel_rfl) (by kernel_rfl) (by kernel_rfl) (fun _ _ _ h => h) (Or.inl ⟨by rfl, fun w hSw => by have r1 := q1 w hSw; go_simp⟩) hS ?_
      simp only [Act.put, List.getElem_toArray, List.getElem_cons_succ, List.getElem_cons_zero, List.setIfInBounds_toArray, List.set_cons_zero, List.set_cons_succ]
      refine wpAnyH_take (i := 5) (v := .slice ca C.length cc) rfl (by kernel_rfl) (by kernel_rfl) (by kernel_rfl) (fun _ _ _ h => h) (Or.inl ⟨by rfl, fun w hSw => by go_simp⟩) hS ?_
      simp only [Act.put, List.getElem_toArray, List.getElem_cons_succ, List.getElem_cons_zero, List.setIfInBounds_toArray, List.set_cons_zero, List.set_cons_succ]
      refine wpAnyH_take (i := 6) (v := .int .i64 (sh : Int)) rfl (by kernel_rfl) (by kernel_rfl) (by kernel_rfl) (fun _ _ _ h => h) (Or.inl ⟨by rfl, fun w hSw => by go_simp⟩) hS ?_
      simp only [Act.put, List.getElem_toArray, List.getElem_cons_succ, List.getElem_cons_zero, List.setIfInBounds_toArray, List.set_cons_zero, List.set_cons_succ]
      refine wpAnyH_take (i := 7) (v := .slice oa xs.length oc) rfl (by kernel_rfl) (by kernel_rfl) (by kernel_rfl) (fun _ _ _ h => h) (Or.inl ⟨by rfl, fun w hSw => by go_simp⟩) hS ?_
      simp only [Act.put, List.getElem_toArray, List.getElem_cons_succ, List.getElem_cons_zero, List.setIfInBounds_toArray, List.set_cons_zero, List.set_cons_succ]
      refine wpAnyH_take (i := 8) (v := .slice oa xs.length oc) rfl (by kernel_rfl) (by kernel_rfl) (by kernel_rfl) (fun _ _ _ h => h) (Or.inl ⟨by rfl, fun w hSw => by go_simp⟩) hS ?_
      simp only [Act.put, List.getElem_toArray, List.getElem_cons_succ, List.getElem_cons_zero, List.setIfInBounds_toArray, List.set_cons_zero, List.set_cons_succ]
      refine wpAnyH_take (i := 9) (v := .int .i64 (xs.length : Int)) rfl (by kernel_rfl) (by kernel_rfl) (by kernel_rfl) (fun _ _ _ h => h) (Or.inl ⟨by rfl, fun w hSw => by go_simp⟩) hS ?_
      simp only [Act.put, List.getElem_toArray, List.getElem_cons_succ, List.getElem_cons_zero, List.setIfInBounds_toArray, List.set_cons_zero, List.set_cons_succ]
      refine wpAnyH_ready (rs := [10]) (by kernel_rfl) (by simp) ?_
      refine AllReadyH.cons rfl (fun K hK => ?_) AllReadyH.nil
      go_simp
      refine (kf).mono ?_
      rintro e w5 ⟨rfl, n5, rfl⟩
      have HO5 : Hid (Out w (.slice oa xs.length oc) xs (wr.drew.drewN n5)) := HO.out.drew.low (below_drewN _ _)
      generalize hw5 : wr.drew.drewN n5 = w5 at *
      clear hw5
      generalize foreN C sh xs xs.length = fo at *
      refine hK.out _ _ (HO5.out.below) (fun hS9 => ?_)
      clear hK K
      refine wpAnyH_take (i := 11) (v := .int .i64 (wrap64 (x + fo))) rfl (by kernel_rfl) (by kernel_rfl) (by kernel_rfl) (fun _ _ _ h => h) (Or.inl ⟨by rfl, fun w hSw => by go_simp; exact wrap_is _⟩) hS9 ?_
      simp only [Act.put, List.getElem_toArray, List.getElem_cons_succ, List.getElem_cons_zero, List.setIfInBounds_toArray, List.set_cons_zero, List.set_cons_succ]
      refine wpAnyH_ready (rs := [12]) (by kernel_rfl) (by simp) ?_
      refine AllReadyH.cons rfl (fun K hK => ?_) AllReadyH.nil
      go_simp
      refine hK.out _ _ ((HO5.out.alloc _).below) (fun hSbA => ?_)
      clear hK K
      try simp only [Act.put, List.getElem_toArray, List.getElem_cons_succ, List.getElem_cons_zero, List.setIfInBounds_toArray, List.set_cons_zero, List.set_cons_succ]
      refine wpAnyH_ready (rs := [13]) (by kernel_rfl) (by simp) ?_
      refine AllReadyH.cons rfl (fun K hK => ?_) AllReadyH.nil
      refine step_append_lies _ (by rfl) _ _ _ (by rfl) w.heap.size 3 i3 (.int .i64 0) 1 8 undI3 h3a h3b h3c h3d rfl (by decide) (.slice oa xs.length oc) xs.length (intsC xs) (by rfl) (HO5.out.alloc _).own ⟨w5.heap.size, 0, none⟩ 1 1 [.int .i64 (wrap64 (x + fo))] (by rfl) (by rfl) (World.news_of_block (cs := #[.int .i64 (wrap64 (x + fo))]) (t := 3) (fr := (0, 0)) (tmp_new w5 _)) (one_int _ _) (by decide) (by unfold maxLen; omega) (by omega) (HO5.out.alloc _).below.size _ rfl ?_
      intro gA cA wA ownA groA hatA hltA
      have HPA : Hid (Out w (.slice (some ⟨gA, 0, none⟩) (xs.length + 1) cA) (xs ++ [(wrap64 (x + fo))]) wA) := (HO5.out.alloc _).push ownA groA
      clear ownA groA hatA hltA
      refine hK.out _ _ (HPA.out.below) (fun hSaA => ?_)
      clear hK K
      try simp only [Act.put, List.getElem_toArray, List.getElem_cons_succ, List.getElem_cons_zero, List.setIfInBounds_toArray, List.set_cons_zero, List.set_cons_succ]
      refine wpAnyH_take (i := 14) (v := .slice (some ⟨gA, 0, none⟩) (xs.length + 1) cA) rfl (by kernel_rfl) (by kernel_rfl) (by kernel_rfl) (fun _ _ _ h => h) (Or.inl ⟨by rfl, fun w hSw => by go_simp⟩) hSaA ?_
      simp only [Act.put, List.getElem_toArray, List.getElem_cons_succ, List.getElem_cons_zero, List.setIfInBounds_toArray, List.set_cons_zero, List.set_cons_succ]
      refine wpAnyH_done (by kernel_rfl) ?_ _

      go_wp2_with fail
      go_roundw
      case rel => exact ⟨i + 1, _, by omega, by go_num, rfl, by rw [HN.out]; exact HPA.out⟩
      case measure => simp [intOf]; omega
    · have hie : i = l.length := by omega
      subst hie
      have HI : Hid (IntsAt wr oa (wholeN C sh warm l l.length) ∧ Below w.heap.size w wr) := ⟨hout.ints (by omega) (HRG.out _), hout.below⟩
      clear hout hwl
      go_wp2_with fail
      go_ret
      exact ⟨oa, oc, rfl, HI.out.1, HI.out.2⟩
set_option maxRecDepth 20000 in
set_option maxHeartbeats 3200000 in
theorem xweights_spec (o : Nat) (ho : o ≤ 4) (w : World) : Calls Tryd.prog 33 #[.int .i64 (o : Int)] w fun e w' => ∃ ca cc, e = .returned (.slice ca (wF o).length cc) ∧ IntsAt w' ca (wF o) ∧ Below w.heap.size w w' := by
  rcases (show o = 0 ∨ o = 1 ∨ o = 2 ∨ o = 3 ∨ o = 4 by omega) with rfl | rfl | rfl | rfl | rfl
  · go_enter Tryd.func33, Tryd.ntmps33
    go_wp2_with fail
    go_ret
    exact ⟨none, 0, rfl, IntsAt.nil w, Below.refl _ _⟩
  · have HI : Hid (IntsAt (w.alloc (.cells #[.int .i64 1] 3)) (some ⟨w.heap.size, 0, none⟩) (wF 1)) := ints_new w (wF 1) (by decide) (by decide)
    have HB : Hid (Below w.heap.size w (w.alloc (.cells #[.int .i64 1] 3))) := (Below.refl _ _).alloc (Nat.le_refl _) _
    go_enter Tryd.func33, Tryd.ntmps33
    go_wp2_with fail
    go_ret
    exact ⟨_, _, rfl, HI.out, HB.out⟩
  · have HI : Hid (IntsAt (w.alloc (.cells #[.int .i64 2, .int .i64 (-1)] 3)) (some ⟨w.heap.size, 0, none⟩) (wF 2)) := ints_new w (wF 2) (by decide) (by decide)
    have HB : Hid (Below w.heap.size w (w.alloc (.cells #[.int .i64 2, .int .i64 (-1)] 3))) := (Below.refl _ _).alloc (Nat.le_refl _) _
    go_enter Tryd.func33, Tryd.ntmps33
    go_wp2_with fail
    go_ret
    exact ⟨_, _, rfl, HI.out, HB.out⟩
  · have HI : Hid (IntsAt (w.alloc (.cells #[.int .i64 3, .int .i64 (-3), .int .i64 1] 3)) (some ⟨w.heap.size, 0, none⟩) (wF 3)) := ints_new w (wF 3) (by decide) (by decide)
    have HB : Hid (Below w.heap.size w (w.alloc (.cells #[.int .i64 3, .int .i64 (-3), .int .i64 1] 3))) := (Below.refl _ _).alloc (Nat.le_refl _) _
    go_enter Tryd.func33, Tryd.ntmps33
    go_wp2_with fail
    go_ret
    exact ⟨_, _, rfl, HI.out, HB.out⟩
  · have HI : Hid (IntsAt (w.alloc (.cells #[.int .i64 4, .int .i64 (-6), .int .i64 4, .int .i64 (-1)] 3)) (some ⟨w.heap.size, 0, none⟩) (wF 4)) := ints_new w (wF 4) (by decide) (by decide)
    have HB : Hid (Below w.heap.size w (w.alloc (.cells #[.int .i64 4, .int .i64 (-6), .int .i64 4, .int .i64 (-1)] 3))) := (Below.refl _ _).alloc (Nat.le_refl _) _
    go_enter Tryd.func33, Tryd.ntmps33
    go_wp2_with fail
    go_ret
    exact ⟨_, _, rfl, HI.out, HB.out⟩

end Go.Proofs.YtpfkaddammfkkaaDoor
