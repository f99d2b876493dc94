/- Own text: the walk of the document's Same. -/
import Derived.Test.YtjkamannjgcmiaaDoorG5x
namespace Go.Proofs.YtjkamannjgcmiaaDoor
open Go.RowKit
set_option linter.unusedSimpArgs false
set_option linter.unusedVariables false

set_option maxRecDepth 20000 in
set_option maxHeartbeats 3200000 in
theorem pages_same (l : List Pg) (a b : Option Addr) (c d : Nat) (w : World) (hl : PgsAt w a l) (hm : PgsAt w b l) (hn : l.length ≤ 1000000000000) :
    Calls Tryd.prog 10 #[.slice a l.length c, .slice b l.length d] w fun e w' => e = .returned (.bool true) ∧ Below w.heap.size w w' := by
  have HL : Hid (PgsAt w a l) := hl
  have HM : Hid (PgsAt w b l) := hm
  clear hl hm
  go_enter Tryd.func10, Tryd.ntmps10
  go_wp2_with fail
  go_loopw [5] (fun t wr => ∃ k : Nat, k ≤ l.length ∧ t = .int .i64 (k : Int) ∧ Below w.heap.size w wr) (fun t _ => l.length - (intOf t).toNat)
  case atStart => exact ⟨0, Nat.zero_le _, rfl, Below.refl _ _⟩
  case round =>
    obtain ⟨k, hk, rfl, hb⟩ := hrel
    have HB : Hid (Below w.heap.size w wr) := hb
    clear hb
    by_cases hlt : k < l.length
    · obtain ⟨p, hp⟩ : ∃ p, l[k]? = some p := ⟨_, List.getElem?_eq_getElem hlt⟩
      obtain ⟨b1, o1, rfl, ap, ac, hpa, q1⟩ := HL.out.at k p hp
      obtain ⟨b2, o2, rfl, bp, bc, hpb, q2⟩ := HM.out.at k p hp
      have HPA : Hid (IntsAt w ap p.la) := hpa.la
      have HPB : Hid (IntsAt w bp p.la) := hpb.la
      have hpl := hpa.la.len
      have HQ1 := hid q1
      have HQ2 := hid q2
      clear hpa hpb q1 q2 hp
      go_upto_region 6 with fail
      refine wp_region_held_drew (S := fun wx => Hid (Below w.heap.size w wx)) (by kernel_rfl) (show Hid _ from HB.out.trans ⟨rfl, rfl, rfl, Nat.le_refl _, fun _ _ => rfl⟩) (fun hS => ?_)
      refine wpAnyH_take (i := 0) (v := .slice (some ⟨b1, o1, none⟩) l.length c) rfl (by kernel_rfl) (by kernel_rfl) (by kernel_rfl) (fun _ _ _ h => h) (Or.inl ⟨by rfl, fun w hSw => by go_simp⟩) hS ?_
      simp only [Act.put, List.getElem_toArray, List.getElem_cons_succ, List.getElem_cons_zero, List.setIfInBounds_toArray, List.set_cons_zero, List.set_cons_succ]
      refine wpAnyH_take (i := 1) (v := .int .i64 (k : Int)) rfl (by kernel_rfl) (by kernel_rfl) (by kernel_rfl) (fun _ _ _ h => h) (Or.inl ⟨by rfl, fun w hSw => by go_simp⟩) hS ?_
      simp only [Act.put, List.getElem_toArray, List.getElem_cons_succ, List.getElem_cons_zero, List.setIfInBounds_toArray, List.set_cons_zero, List.set_cons_succ]
      refine wpAnyH_take (i := 2) (v := .pointer (some ⟨b1, o1 + k * 5, none⟩)) rfl (by kernel_rfl) (by kernel_rfl) (by kernel_rfl) (fun _ _ _ h => h) (Or.inl ⟨by rfl, fun w hSw => by go_simp⟩) hS ?_
      simp only [Act.put, List.getElem_toArray, List.getElem_cons_succ, List.getElem_cons_zero, List.setIfInBounds_toArray, List.set_cons_zero, List.set_cons_succ]
      refine wpAnyH_take (i := 3) (v := .agg #[.int .i64 p.fl, .int .i64 p.se, .int .i64 p.sq, .int .i64 p.gr, .slice ap p.la.length ac]) rfl (by kernel_rfl) (by kernel_rfl) (by kernel_rfl) (fun _ _ _ h => h) (Or.inl ⟨by rfl, fun w hSw => by obtain ⟨x0, x1, x2, x3, x4⟩ := HQ1.out _ hSw.out; go_simp⟩) hS ?_
      simp only [Act.put, List.getElem_toArray, List.getElem_cons_succ, List.getElem_cons_zero, List.setIfInBounds_toArray, List.set_cons_zero, List.set_cons_succ]
      refine wpAnyH_take (i := 4) (v := .slice (some ⟨b2, o2, none⟩) l.length d) rfl (by kernel_rfl) (by kernel_rfl) (by kernel_rfl) (fun _ _ _ h => h) (Or.inl ⟨by rfl, fun w hSw => by go_simp⟩) hS ?_
      simp only [Act.put, List.getElem_toArray, List.getElem_cons_succ, List.getElem_cons_zero, List.setIfInBounds_toArray, List.set_cons_zero, List.set_cons_succ]
      refine wpAnyH_take (i := 5) (v := .int .i64 (k : Int)) rfl (by kernel_rfl) (by kernel_rfl) (by kernel_rfl) (fun _ _ _ h => h) (Or.inl ⟨by rfl, fun w hSw => by go_simp⟩) hS ?_
      simp only [Act.put, List.getElem_toArray, List.getElem_cons_succ, List.getElem_cons_zero, List.setIfInBounds_toArray, List.set_cons_zero, List.set_cons_succ]
      refine wpAnyH_take (i := 6) (v := .pointer (some ⟨b2, o2 + k * 5, none⟩)) rfl (by kernel_rfl) (by kernel_rfl) (by kernel_rfl) (fun _ _ _ h => h) (Or.inl ⟨by rfl, fun w hSw => by go_simp⟩) hS ?_
      simp only [Act.put, List.getElem_toArray, List.getElem_cons_succ, List.getElem_cons_zero, List.setIfInBounds_toArray, List.set_cons_zero, List.set_cons_succ]
      refine wpAnyH_take (i := 7) (v := .agg #[.int .i64 p.fl, .int .i64 p.se, .int .i64 p.sq, .int .i64 p.gr, .slice bp p.la.length bc]) rfl (by kernel_rfl) (by kernel_rfl) (by kernel_rfl) (fun _ _ _ h => h) (Or.inl ⟨by rfl, fun w hSw => by obtain ⟨x0, x1, x2, x3, x4⟩ := HQ2.out _ hSw.out; go_simp⟩) hS ?_
      simp only [Act.put, List.getElem_toArray, List.getElem_cons_succ, List.getElem_cons_zero, List.setIfInBounds_toArray, List.set_cons_zero, List.set_cons_succ]
      refine wpAnyH_ready (rs := [8, 9]) (by kernel_rfl) (by simp) ?_
      refine AllReadyH.cons rfl (fun K hK => ?_) (AllReadyH.cons rfl (fun K hK => ?_) AllReadyH.nil)
      · go_simp
        have HA : Hid (Box (wr.alloc (.cells zeroP 49)).drew wr.heap.size zeroP 49 ∧ Below w.heap.size w (wr.alloc (.cells zeroP 49)).drew ∧ w.heap.size ≤ wr.heap.size) := ⟨(Box.new _ _ _).drew, below_on (below_on HB.out HB.out.size (below_new _ _)) (by have := HB.out.size; simp; omega) (below_drew _), HB.out.size⟩
        generalize (wr.alloc (.cells zeroP 49)).drew = wa at *
        refine hK.out _ _ (hid HA.out.2.1) (fun hS2 => ?_)
        clear hK K hS
        generalize wr.heap.size = X at *
        refine wpAnyH_ready (rs := [9]) (by kernel_rfl) (by simp) ?_
        refine AllReadyH.cons rfl (fun K hK => ?_) AllReadyH.nil
        go_simp
        have HA2 : Hid (Box (wa.alloc (.cells zeroP 49)) X zeroP 49 ∧ Box (wa.alloc (.cells zeroP 49)) wa.heap.size zeroP 49 ∧ Below w.heap.size w (wa.alloc (.cells zeroP 49)) ∧ w.heap.size ≤ X ∧ w.heap.size ≤ wa.heap.size ∧ X ≠ wa.heap.size) := ⟨HA.out.1.keep (below_new _ _), Box.new _ _ _, below_on HA.out.2.1 HA.out.2.1.size (below_new _ _), HA.out.2.2, HA.out.2.1.size, by have := HA.out.1.lt; omega⟩
        generalize wa.alloc (.cells zeroP 49) = wb at *
        refine hK.out _ _ (hid HA2.out.2.2.1) (fun hS3 => ?_)
        clear hK K hS2 HA
        generalize wa.heap.size = Y at *
        have HX : Hid (Box wb X zeroP 49 ∧ Box wb Y zeroP 49 ∧ Below w.heap.size w wb ∧ w.heap.size ≤ X ∧ w.heap.size ≤ Y ∧ X ≠ Y) := HA2.out
        clear HA2
        refine wpAnyH_ready (rs := [10]) (by kernel_rfl) (by simp) ?_
        refine AllReadyH.cons rfl (fun K hK => ?_) AllReadyH.nil
        rw [if_pos (by rfl)]
        refine wp_store_row 49 (.tmp 6) (.tmp 23) rfl X #[.int .i64 p.fl, .int .i64 p.se, .int .i64 p.sq, .int .i64 p.gr, .slice ap p.la.length ac] rfl rfl 49 zeroP HX.out.1.h info_page rfl (by simp [Value.oneCell']) ?_
        have HX2 : Hid (Box (wb.setRow X #[.int .i64 p.fl, .int .i64 p.se, .int .i64 p.sq, .int .i64 p.gr, .slice ap p.la.length ac]) X #[.int .i64 p.fl, .int .i64 p.se, .int .i64 p.sq, .int .i64 p.gr, .slice ap p.la.length ac] 49 ∧ Box (wb.setRow X #[.int .i64 p.fl, .int .i64 p.se, .int .i64 p.sq, .int .i64 p.gr, .slice ap p.la.length ac]) Y zeroP 49 ∧ Below w.heap.size w (wb.setRow X #[.int .i64 p.fl, .int .i64 p.se, .int .i64 p.sq, .int .i64 p.gr, .slice ap p.la.length ac])) := ⟨HX.out.1.set _, HX.out.2.1.other (fun q => HX.out.2.2.2.2.2 q.symm) _, below_setRow HX.out.2.2.1 HX.out.2.2.2.1 _⟩
        generalize World.setRow wb X _ = wc at *
        refine hK.out _ _ (hid HX2.out.2.2) (fun hS4 => ?_)
        clear hK K hS3
        refine wpAnyH_ready (rs := [11]) (by kernel_rfl) (by simp) ?_
        refine AllReadyH.cons rfl (fun K hK => ?_) AllReadyH.nil
        rw [if_pos (by rfl)]
        refine wp_store_row 49 (.tmp 7) (.tmp 27) rfl Y #[.int .i64 p.fl, .int .i64 p.se, .int .i64 p.sq, .int .i64 p.gr, .slice bp p.la.length bc] rfl rfl 49 zeroP HX2.out.2.1.h info_page rfl (by simp [Value.oneCell']) ?_
        have HX3 : Hid (Box (wc.setRow Y #[.int .i64 p.fl, .int .i64 p.se, .int .i64 p.sq, .int .i64 p.gr, .slice bp p.la.length bc]) X #[.int .i64 p.fl, .int .i64 p.se, .int .i64 p.sq, .int .i64 p.gr, .slice ap p.la.length ac] 49 ∧ Box (wc.setRow Y #[.int .i64 p.fl, .int .i64 p.se, .int .i64 p.sq, .int .i64 p.gr, .slice bp p.la.length bc]) Y #[.int .i64 p.fl, .int .i64 p.se, .int .i64 p.sq, .int .i64 p.gr, .slice bp p.la.length bc] 49 ∧ Below w.heap.size w (wc.setRow Y #[.int .i64 p.fl, .int .i64 p.se, .int .i64 p.sq, .int .i64 p.gr, .slice bp p.la.length bc])) := ⟨HX2.out.1.other HX.out.2.2.2.2.2 _, HX2.out.2.1.set _, below_setRow HX2.out.2.2 HX.out.2.2.2.2.1 _⟩
        generalize World.setRow wc Y _ = wd at *
        refine hK.out _ _ (hid HX3.out.2.2) (fun hS5 => ?_)
        clear hK K hS4 HX HX2
        refine wpAnyH_done (by kernel_rfl) ?_ _
        have x0 := HX3.out.1.c 0 _ rfl
        have y0 := HX3.out.2.1.c 0 _ rfl
        have x1 := HX3.out.1.c 1 _ rfl
        have y1 := HX3.out.2.1.c 1 _ rfl
        have x2 := HX3.out.1.c 2 _ rfl
        have y2 := HX3.out.2.1.c 2 _ rfl
        have x3 := HX3.out.1.c 3 _ rfl
        have y3 := HX3.out.2.1.c 3 _ rfl
        have x4 := HX3.out.1.c 4 _ rfl
        have y4 := HX3.out.2.1.c 4 _ rfl
        have HD : Hid (Below w.heap.size w wd) := HX3.out.2.2
        have HCC : Hid (∀ wx, Below wd.heap.size wd wx → wx.cell? ⟨X, 4, none⟩ = some (.slice ap p.la.length ac) ∧ wx.cell? ⟨Y, 4, none⟩ = some (.slice bp p.la.length bc)) := fun wx hb => ⟨(HX3.out.1.keep hb).c 4 _ rfl, (HX3.out.2.1.keep hb).c 4 _ rfl⟩
        clear HX3 HQ1 HQ2 HL HM
        go_wp2_with fail
        clear x0 x1 x2 x3 y0 y1 y2 y3 x4 y4
        go_loopw [8] (fun t ws => ∃ i : Nat, i ≤ p.la.length ∧ t = .int .i64 (i : Int) ∧ Below wd.heap.size wd ws) (fun t _ => p.la.length - (intOf t).toNat)
        case atStart => exact ⟨0, Nat.zero_le _, rfl, Below.refl _ _⟩
        case round =>
          obtain ⟨i, hi, rfl, hb⟩ := hrel
          have HBI : Hid (Below wd.heap.size wd wr) := hb
          obtain ⟨x4, y4⟩ := HCC.out wr hb
          clear hb
          by_cases hil : i < p.la.length
          · obtain ⟨b3, o3, rfl, q3⟩ := HPA.out.at i hil
            obtain ⟨b4, o4, rfl, q4⟩ := HPB.out.at i hil
            have r1 := q3 wr (below_on HD.out HD.out.size HBI.out)
            have r2 := q4 wr (below_on HD.out HD.out.size HBI.out)
            clear q3 q4
            generalize p.la.getD i 0 = x at *
            go_wp2_with fail
            go_quiet (fail)
            go_wp2_with fail
            go_roundw
            case rel => exact ⟨i + 1, by omega, by go_num, Below.drewN HBI.out nq⟩
            case measure => simp [intOf]; omega
          · have HBJ : Hid (Below w.heap.size w wr) := below_on HD.out HD.out.size HBI.out
            clear HBI HCC
            go_wp2_with fail
            go_roundw
            case rel => exact ⟨k + 1, by omega, by go_num, HBJ.out⟩
            case measure => simp [intOf]; omega
      · go_simp
        have HA : Hid (Box (wr.alloc (.cells zeroP 49)).drew wr.heap.size zeroP 49 ∧ Below w.heap.size w (wr.alloc (.cells zeroP 49)).drew ∧ w.heap.size ≤ wr.heap.size) := ⟨(Box.new _ _ _).drew, below_on (below_on HB.out HB.out.size (below_new _ _)) (by have := HB.out.size; simp; omega) (below_drew _), HB.out.size⟩
        generalize (wr.alloc (.cells zeroP 49)).drew = wa at *
        refine hK.out _ _ (hid HA.out.2.1) (fun hS2 => ?_)
        clear hK K hS
        generalize wr.heap.size = X at *
        refine wpAnyH_ready (rs := [8]) (by kernel_rfl) (by simp) ?_
        refine AllReadyH.cons rfl (fun K hK => ?_) AllReadyH.nil
        go_simp
        have HA2 : Hid (Box (wa.alloc (.cells zeroP 49)) X zeroP 49 ∧ Box (wa.alloc (.cells zeroP 49)) wa.heap.size zeroP 49 ∧ Below w.heap.size w (wa.alloc (.cells zeroP 49)) ∧ w.heap.size ≤ X ∧ w.heap.size ≤ wa.heap.size ∧ X ≠ wa.heap.size) := ⟨HA.out.1.keep (below_new _ _), Box.new _ _ _, below_on HA.out.2.1 HA.out.2.1.size (below_new _ _), HA.out.2.2, HA.out.2.1.size, by have := HA.out.1.lt; omega⟩
        generalize wa.alloc (.cells zeroP 49) = wb at *
        refine hK.out _ _ (hid HA2.out.2.2.1) (fun hS3 => ?_)
        clear hK K hS2 HA
        generalize wa.heap.size = Y at *
        have HX : Hid (Box wb Y zeroP 49 ∧ Box wb X zeroP 49 ∧ Below w.heap.size w wb ∧ w.heap.size ≤ Y ∧ w.heap.size ≤ X ∧ Y ≠ X) := ⟨HA2.out.2.1, HA2.out.1, HA2.out.2.2.1, HA2.out.2.2.2.2.1, HA2.out.2.2.2.1, fun q => HA2.out.2.2.2.2.2 q.symm⟩
        clear HA2
        refine wpAnyH_ready (rs := [10]) (by kernel_rfl) (by simp) ?_
        refine AllReadyH.cons rfl (fun K hK => ?_) AllReadyH.nil
        rw [if_pos (by rfl)]
        refine wp_store_row 49 (.tmp 6) (.tmp 23) rfl Y #[.int .i64 p.fl, .int .i64 p.se, .int .i64 p.sq, .int .i64 p.gr, .slice ap p.la.length ac] rfl rfl 49 zeroP HX.out.1.h info_page rfl (by simp [Value.oneCell']) ?_
        have HX2 : Hid (Box (wb.setRow Y #[.int .i64 p.fl, .int .i64 p.se, .int .i64 p.sq, .int .i64 p.gr, .slice ap p.la.length ac]) Y #[.int .i64 p.fl, .int .i64 p.se, .int .i64 p.sq, .int .i64 p.gr, .slice ap p.la.length ac] 49 ∧ Box (wb.setRow Y #[.int .i64 p.fl, .int .i64 p.se, .int .i64 p.sq, .int .i64 p.gr, .slice ap p.la.length ac]) X zeroP 49 ∧ Below w.heap.size w (wb.setRow Y #[.int .i64 p.fl, .int .i64 p.se, .int .i64 p.sq, .int .i64 p.gr, .slice ap p.la.length ac])) := ⟨HX.out.1.set _, HX.out.2.1.other (fun q => HX.out.2.2.2.2.2 q.symm) _, below_setRow HX.out.2.2.1 HX.out.2.2.2.1 _⟩
        generalize World.setRow wb Y _ = wc at *
        refine hK.out _ _ (hid HX2.out.2.2) (fun hS4 => ?_)
        clear hK K hS3
        refine wpAnyH_ready (rs := [11]) (by kernel_rfl) (by simp) ?_
        refine AllReadyH.cons rfl (fun K hK => ?_) AllReadyH.nil
        rw [if_pos (by rfl)]
        refine wp_store_row 49 (.tmp 7) (.tmp 27) rfl X #[.int .i64 p.fl, .int .i64 p.se, .int .i64 p.sq, .int .i64 p.gr, .slice bp p.la.length bc] rfl rfl 49 zeroP HX2.out.2.1.h info_page rfl (by simp [Value.oneCell']) ?_
        have HX3 : Hid (Box (wc.setRow X #[.int .i64 p.fl, .int .i64 p.se, .int .i64 p.sq, .int .i64 p.gr, .slice bp p.la.length bc]) Y #[.int .i64 p.fl, .int .i64 p.se, .int .i64 p.sq, .int .i64 p.gr, .slice ap p.la.length ac] 49 ∧ Box (wc.setRow X #[.int .i64 p.fl, .int .i64 p.se, .int .i64 p.sq, .int .i64 p.gr, .slice bp p.la.length bc]) X #[.int .i64 p.fl, .int .i64 p.se, .int .i64 p.sq, .int .i64 p.gr, .slice bp p.la.length bc] 49 ∧ Below w.heap.size w (wc.setRow X #[.int .i64 p.fl, .int .i64 p.se, .int .i64 p.sq, .int .i64 p.gr, .slice bp p.la.length bc])) := ⟨HX2.out.1.other HX.out.2.2.2.2.2 _, HX2.out.2.1.set _, below_setRow HX2.out.2.2 HX.out.2.2.2.2.1 _⟩
        generalize World.setRow wc X _ = wd at *
        refine hK.out _ _ (hid HX3.out.2.2) (fun hS5 => ?_)
        clear hK K hS4 HX HX2
        refine wpAnyH_done (by kernel_rfl) ?_ _
        have x0 := HX3.out.1.c 0 _ rfl
        have y0 := HX3.out.2.1.c 0 _ rfl
        have x1 := HX3.out.1.c 1 _ rfl
        have y1 := HX3.out.2.1.c 1 _ rfl
        have x2 := HX3.out.1.c 2 _ rfl
        have y2 := HX3.out.2.1.c 2 _ rfl
        have x3 := HX3.out.1.c 3 _ rfl
        have y3 := HX3.out.2.1.c 3 _ rfl
        have x4 := HX3.out.1.c 4 _ rfl
        have y4 := HX3.out.2.1.c 4 _ rfl
        have HD : Hid (Below w.heap.size w wd) := HX3.out.2.2
        have HCC : Hid (∀ wx, Below wd.heap.size wd wx → wx.cell? ⟨Y, 4, none⟩ = some (.slice ap p.la.length ac) ∧ wx.cell? ⟨X, 4, none⟩ = some (.slice bp p.la.length bc)) := fun wx hb => ⟨(HX3.out.1.keep hb).c 4 _ rfl, (HX3.out.2.1.keep hb).c 4 _ rfl⟩
        clear HX3 HQ1 HQ2 HL HM
        go_wp2_with fail
        clear x0 x1 x2 x3 y0 y1 y2 y3 x4 y4
        go_loopw [8] (fun t ws => ∃ i : Nat, i ≤ p.la.length ∧ t = .int .i64 (i : Int) ∧ Below wd.heap.size wd ws) (fun t _ => p.la.length - (intOf t).toNat)
        case atStart => exact ⟨0, Nat.zero_le _, rfl, Below.refl _ _⟩
        case round =>
          obtain ⟨i, hi, rfl, hb⟩ := hrel
          have HBI : Hid (Below wd.heap.size wd wr) := hb
          obtain ⟨x4, y4⟩ := HCC.out wr hb
          clear hb
          by_cases hil : i < p.la.length
          · obtain ⟨b3, o3, rfl, q3⟩ := HPA.out.at i hil
            obtain ⟨b4, o4, rfl, q4⟩ := HPB.out.at i hil
            have r1 := q3 wr (below_on HD.out HD.out.size HBI.out)
            have r2 := q4 wr (below_on HD.out HD.out.size HBI.out)
            clear q3 q4
            generalize p.la.getD i 0 = x at *
            go_wp2_with fail
            go_quiet (fail)
            go_wp2_with fail
            go_roundw
            case rel => exact ⟨i + 1, by omega, by go_num, Below.drewN HBI.out nq⟩
            case measure => simp [intOf]; omega
          · have HBJ : Hid (Below w.heap.size w wr) := below_on HD.out HD.out.size HBI.out
            clear HBI HCC
            go_wp2_with fail
            go_roundw
            case rel => exact ⟨k + 1, by omega, by go_num, HBJ.out⟩
            case measure => simp [intOf]; omega

    · go_wp2_with fail
      go_ret
      exact ⟨rfl, HB.out⟩

end Go.Proofs.YtjkamannjgcmiaaDoor
