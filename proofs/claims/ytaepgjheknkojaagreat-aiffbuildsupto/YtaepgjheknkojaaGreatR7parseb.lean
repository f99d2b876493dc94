/- Own text: the walk of the document's Parse (aiff). -/
import Derived.Test.YtaepgjheknkojaaGreatR7parse1
namespace Go.Proofs.YtaepgjheknkojaaGreat
open Go.RowKit
set_option linter.unusedSimpArgs false
set_option linter.unusedVariables false

set_option maxRecDepth 20000 in
set_option maxHeartbeats 64000000 in
theorem r7parse_main (s : ByteArray) (w : World) (hs : s.size ≤ 140737488351232) (h : 12 ≤ s.size) (h1 : ((s.extract 0 4).toList == formT.toList) = true) (h23 : ((s.extract 8 12).toList == aiffT.toList) = true ∨ (((s.extract 8 12).toList == aiffT.toList) = false ∧ ((s.extract 8 12).toList == aifcT.toList) = true)) (h4 : ¬ 67108864 < s.size) (h5 : (beI s 4 8 != (s.size : Int) - 8) = false) (h6 : opE s = 0) (hfb : formB (opF s) = true) :
  Calls Tryz.prog 7 #[.string s] w (GivesB7 w s) := by
 have hck : ∃ FK, kB (opF s) = FK ∧ ((s.extract 8 12).toList == [65, 73, 70, 67]) = FK := by
  rcases h23 with h2 | ⟨h2, h3⟩
  ·exact ⟨false, by show (!((s.extract 8 12).toList == aiffT.toList)) = false; rw [h2]; rfl, by rw [eq_of_beq h2, aiff_list]; decide⟩
  ·exact ⟨true, by show (!((s.extract 8 12).toList == aiffT.toList)) = true; rw [h2]; rfl, by rw [← aifc_list]; exact h3⟩
 obtain ⟨FK, hkb, hfk⟩ := hck
 have HFK : Hid (((s.extract 8 12).toList == [65, 73, 70, 67]) = FK) := hfk
 clear hfk
 have sl4 : ∀ wx, (Instr.slice 9 (.string s) none (some (.int .i64 4)) none).run Tryz.prog wx = .ok (.string (s.extract 0 4)) wx := fun wx => by
  have h2j : ¬ ((s.size : Int) < 4) := by omega
  go_simp
 have sl8 : ∀ wx, (Instr.slice 9 (.string s) (some (.int .i64 8)) (some (.int .i64 12)) none).run Tryz.prog wx = .ok (.string (s.extract 8 12)) wx := fun wx => ext_run s 8 12 (by decide) (by omega) wx
 rw [form_list] at h1
 have h4i : decide ((67108864 : Int) < (s.size : Int)) = false := decide_eq_false (by omega)
 have sl48 : ∀ wx, (Instr.slice 9 (.string s) (some (.int .i64 4)) (some (.int .i64 8)) none).run Tryz.prog wx = .ok (.string (s.extract 4 8)) wx := fun wx => ext_run s 4 8 (by decide) (by omega) wx
 have sl12 : ∀ wx, (Instr.slice 9 (.string s) (some (.int .i64 12)) none none).run Tryz.prog wx = .ok (.string (s.extract 12 s.size)) wx := fun wx => slice_from s 12 (by omega) wx
 have HPE : Hid (p7E s = if lkE (opF s) (opL s) = 0 then (if cut7E (opL s) (opX s) (opI s) = 0 then uE (opS s) (opX s).rate (opX s).ch (opX s).wd (!(opX s).lit) false else 2) else lkE (opF s) (opL s)) := by show _ = _; unfold p7E; rw [if_pos h6]
 obtain ⟨hbd, hln⟩ := op_body s h6
 obtain ⟨ho1, _⟩ := op_parts s h6
 have HBD : Hid (∀ c ∈ opL s, c.body.size ≤ 67108864) := hbd
 have hsz0 : (((w.alloc (.cells zeroP7 24)).alloc (.cells zeroW 27)).alloc (.cells zeroP7 24)).heap.size = w.heap.size + 3 := by simp
 have kc := r6chunks_own (s.extract 12 s.size) true (((w.alloc (.cells zeroP7 24)).alloc (.cells zeroW 27)).alloc (.cells zeroP7 24)) (by rw [ByteArray.size_extract]; omega)
 rw [ho1, hsz0] at kc
 simp only at kc
 have HKC : Hid (Calls Tryz.prog 18 #[.string (s.extract 12 s.size), .bool true] (((w.alloc (.cells zeroP7 24)).alloc (.cells zeroW 27)).alloc (.cells zeroP7 24)) fun e w' => ∃ ao cap, e = .returned (.tuple #[.slice ao (opL s).length cap, .int .i64 0]) ∧ OwnC (w.heap.size + 3) ao cap (opL s) w' ∧ Below (((w.alloc (.cells zeroP7 24)).alloc (.cells zeroW 27)).alloc (.cells zeroP7 24)).heap.size (((w.alloc (.cells zeroP7 24)).alloc (.cells zeroW 27)).alloc (.cells zeroP7 24)) w') := by rw [hsz0]; exact kc
 clear kc hsz0 ho1 h6 hbd
 have kl : ∀ wx, Calls Tryz.prog 17 #[.string (s.extract 4 8)] wx fun e w' => e = .returned (.int .i64 (beI s 4 8)) ∧ w' = wx := fun wx => reffromBe_spec (s.extract 4 8) (by rw [ByteArray.size_extract]; omega) wx
 generalize beI s 4 8 = LN at *
 have HJ : Hid (Jn7 w (((w.alloc (.cells zeroP7 24)).alloc (.cells zeroW 27)).alloc (.cells zeroP7 24))) := Jn7.new w
 have HXD : Hid (opX s = lkX (opF s) (opL s) ∧ opI s = lkI (opF s) (opL s) ∧ opS s = smpS (opL s) (opI s) ∧ p7L s = cut7L (opL s) (opI s) ∧ p7P s = uP (opS s) (opX s).rate (opX s).ch (opX s).wd (!(opX s).lit) false ∧ opF s = s.extract 8 12) := ⟨rfl, rfl, rfl, rfl, rfl, rfl⟩
 have K1 : Hid (∀ ao cap wx, ChksAt wx ao (opL s) → Calls Tryz.prog 19 #[.slice ao (opL s).length cap, .string ⟨#[67, 79, 77, 77]⟩] wx fun e w' => e = .returned (.tuple #[.int .i64 (findN (opL s) commT).1, .int .i64 (findN (opL s) commT).2]) ∧ w' = wx) := fun ao cap wx hx => r7find_spec (opL s) commT ao cap wx hx (by omega)
 have K2 : Hid (∀ ao cap wx, ChksAt wx ao (opL s) → Calls Tryz.prog 19 #[.slice ao (opL s).length cap, .string ⟨#[83, 83, 78, 68]⟩] wx fun e w' => e = .returned (.tuple #[.int .i64 (findN (opL s) ssndT).1, .int .i64 (findN (opL s) ssndT).2]) ∧ w' = wx) := fun ao cap wx hx => r7find_spec (opL s) ssndT ao cap wx hx (by omega)
 rw [aiff_list, aifc_list] at h23
 rcases h23 with h2 | ⟨h2, h3⟩
 case' inl =>
  go_enter Tryz.func7, Tryz.ntmps7
  go_wp2_with fail
  clear h2
 case' inr =>
  go_enter Tryz.func7, Tryz.ntmps7
  go_wp2_with fail
  clear h2 h3
 all_goals
  have h3c := HFK.out
  refine (kl _).mono ?_
  rintro e w1 ⟨rfl, rfl⟩
  clear kl
  go_wp2_with fail
  refine HKC.out.mono ?_
  rintro e w2 ⟨ao, cap, rfl, ho2, hB2⟩
  have HJ2a : Hid (Jn7 w w2) := HJ.out.next hB2
  have HO2 : Hid (OwnC (w.heap.size + 3) ao cap (opL s) w2) := ho2
  clear HKC hB2 HJ ho2 h4i sl48 sl12 sl4
  go_wp2_with fail
  refine (K1.out _ _ _ HO2.out.at).mono ?_
  rintro e w3 ⟨rfl, hw3⟩
  rw [hw3]
  clear K1 hw3 w3
  go_wp2_with fail
  refine (K2.out _ _ _ HO2.out.at).mono ?_
  rintro e w3 ⟨rfl, hw3⟩
  rw [hw3]
  clear K2 hw3 w3
  cases hn1 : (findN (opL s) commT).2 != 1
  ·cases hm1 : decide (1 < (findN (opL s) ssndT).2)
   ·have hlk : lkB (opF s) (opL s) = true := by
     unfold lkB
     rw [hfb, show ((findN (opL s) commT).2 == 1) = true from by simpa using hn1, hm1]
     rfl
    obtain ⟨i, c, hc, hCi, _, hcm⟩ := comm_at hlk
    have HLX : Hid (lkE (opF s) (opL s) = comE c.body FK ∧ lkX (opF s) (opL s) = comR c.body FK ∧ lkI (opF s) (opL s) = snI (opL s)) := by
     refine ⟨?_, ?_, ?_⟩
     ·unfold lkE
      rw [hlk, hcm, hkb]
      rfl
     ·unfold lkX
      rw [hlk, hcm, hkb]
      rfl
     ·unfold lkI
      rw [hlk]
      rfl
    have hfm := find_minus (opL s) ssndT (by have := of_decide_eq_false hm1; omega)
    have HFM : Hid ((snI (opL s) = -1 ∧ ((findN (opL s) ssndT).2 == 1) = false) ∨ (∃ i c, (opL s)[i]? = some c ∧ snI (opL s) = ((i : Nat) : Int) ∧ ((findN (opL s) ssndT).2 == 1) = true)) := hfm
    have hil := (List.getElem?_eq_some_iff.1 hc).1
    obtain ⟨g, rfl, hBg, hgw, x0, x1, x2, hfz⟩ := HO2.out.spot i c hc
    have hcb := HBD.out c (List.mem_of_getElem? hc)
    have KS : Hid (∀ wx, Calls Tryz.prog 20 #[.string c.body, .bool FK] wx fun e w' => e = .returned (.tuple #[.agg (comC (comR c.body FK)), .int .i64 (comE c.body FK)]) ∧ Below wx.heap.size wx w') := fun wx => r7comm_spec c.body FK wx (by omega)
    have HGX : Hid (comE c.body FK = 0 → GoodX (comR c.body FK)) := fun q => (good_com _ _ q).1
    have HSN : Hid (snI (opL s) = (findN (opL s) ssndT).1) := rfl
    have HCX : Hid (w2.cell? ⟨g, i * 3 + 1, none⟩ = some (.string c.body) ∧ g < w2.heap.size) := ⟨x1, hgw⟩
    clear hlk hcm hc hfm hBg hgw x0 x1 x2 hfz hcb hkb hfb
    rw [hCi]
    clear hCi
    generalize (findN (opL s) commT).2 = C2 at *
    generalize (findN (opL s) ssndT).1 = S1 at *
    generalize (findN (opL s) ssndT).2 = S2 at *
    generalize comR c.body FK = X at *
    generalize comE c.body FK = E at *
    go_upto_region 15 with fail
    have HJ2 : Hid (Jn7 w w2 ∧ OwnC (w.heap.size + 3) (some ⟨g, 0, none⟩) cap (opL s) w2) := ⟨HJ2a.out, HO2.out⟩
    have HSS : Hid (∀ wx, Below w2.heap.size w2 wx → wx.cell? ⟨g, i * 3 + 1, none⟩ = some (.string c.body)) := fun wx hx => (World.cell?_of_block (w := w2) (hx.block g HCX.out.2)).trans HCX.out.1
    clear HJ2a HO2 HCX
    go_cut [7, 12] from 82 to 93 (fun u v wx => u = Value.int .i64 E ∧ ∃ Q, v = Value.pointer (some ⟨Q, 0, none⟩) ∧ Jc7 w Q X (some ⟨g, 0, none⟩) cap (opL s) wx)
    case first =>
     refine wp_region_held_drew (S := fun wx => Below w2.heap.size w2 wx) (by kernel_rfl) (belD _) (fun hS => ?_)
     refine wpAnyH_take (i := 0) (v := .slice (some ⟨g, 0, none⟩) (opL s).length cap) rfl (by kernel_rfl) (by kernel_rfl) (by kernel_rfl) (fun _ _ _ h => h) (Or.inl ⟨by rfl, fun w hSw => by have s1 := HSS.out _ hSw; go_simp⟩) hS ?_
     simp only [Act.put, List.getElem_toArray, List.getElem_cons_succ, List.getElem_cons_zero, List.setIfInBounds_toArray, List.set_cons_zero, List.set_cons_succ]
     refine wpAnyH_take (i := 1) (v := .int .i64 (i : Int)) rfl (by kernel_rfl) (by kernel_rfl) (by kernel_rfl) (fun _ _ _ h => h) (Or.inl ⟨by rfl, fun w hSw => by have s1 := HSS.out _ hSw; go_simp⟩) hS ?_
     simp only [Act.put, List.getElem_toArray, List.getElem_cons_succ, List.getElem_cons_zero, List.setIfInBounds_toArray, List.set_cons_zero, List.set_cons_succ]
     refine wpAnyH_take (i := 2) (v := .pointer (some ⟨g, i * 3, none⟩)) rfl (by kernel_rfl) (by kernel_rfl) (by kernel_rfl) (fun _ _ _ h => h) (Or.inl ⟨by rfl, fun w hSw => by have s1 := HSS.out _ hSw; go_simp⟩) hS ?_
     simp only [Act.put, List.getElem_toArray, List.getElem_cons_succ, List.getElem_cons_zero, List.setIfInBounds_toArray, List.set_cons_zero, List.set_cons_succ]
     refine wpAnyH_take (i := 3) (v := .pointer (some ⟨g, i * 3 + 1, none⟩)) rfl (by kernel_rfl) (by kernel_rfl) (by kernel_rfl) (fun _ _ _ h => h) (Or.inl ⟨by rfl, fun w hSw => by have s1 := HSS.out _ hSw; go_simp⟩) hS ?_
     simp only [Act.put, List.getElem_toArray, List.getElem_cons_succ, List.getElem_cons_zero, List.setIfInBounds_toArray, List.set_cons_zero, List.set_cons_succ]
     refine wpAnyH_take (i := 4) (v := .string c.body) rfl (by kernel_rfl) (by kernel_rfl) (by kernel_rfl) (fun _ _ _ h => h) (Or.inl ⟨by rfl, fun w hSw => by have s1 := HSS.out _ hSw; go_simp⟩) hS ?_
     simp only [Act.put, List.getElem_toArray, List.getElem_cons_succ, List.getElem_cons_zero, List.setIfInBounds_toArray, List.set_cons_zero, List.set_cons_succ]
     refine wpAnyH_take (i := 5) (v := .string s) rfl (by kernel_rfl) (by kernel_rfl) (by kernel_rfl) (fun _ _ _ h => h) (Or.inl ⟨by rfl, fun w hSw => by have s1 := HSS.out _ hSw; go_simp⟩) hS ?_
     simp only [Act.put, List.getElem_toArray, List.getElem_cons_succ, List.getElem_cons_zero, List.setIfInBounds_toArray, List.set_cons_zero, List.set_cons_succ]
     refine wpAnyH_take (i := 6) (v := .string (s.extract 8 12)) rfl (by kernel_rfl) (by kernel_rfl) (by kernel_rfl) (fun _ _ _ h => h) (Or.inl ⟨by rfl, fun w hSw => by have s1 := HSS.out _ hSw; go_simp⟩) hS ?_
     simp only [Act.put, List.getElem_toArray, List.getElem_cons_succ, List.getElem_cons_zero, List.setIfInBounds_toArray, List.set_cons_zero, List.set_cons_succ]
     refine wpAnyH_take (i := 7) (v := .bool FK) rfl (by kernel_rfl) (by kernel_rfl) (by kernel_rfl) (fun _ _ _ h => h) (Or.inl ⟨by rfl, fun w hSw => by have s1 := HSS.out _ hSw; go_simp⟩) hS ?_
     simp only [Act.put, List.getElem_toArray, List.getElem_cons_succ, List.getElem_cons_zero, List.setIfInBounds_toArray, List.set_cons_zero, List.set_cons_succ]
     refine wpAnyH_ready (rs := [8, 12]) (by kernel_rfl) (by simp) ?_
     refine AllReadyH.cons rfl (fun K hK => ?_) (AllReadyH.cons rfl (fun K hK => ?_) AllReadyH.nil)
     ·go_simp
      refine (KS.out _).mono ?_
      rintro e w5 ⟨rfl, hB5⟩
      have HJ5 : Hid ((Jn7 w w5 ∧ OwnC (w.heap.size + 3) (some ⟨g, 0, none⟩) cap (opL s) w5) ∧ Below w2.heap.size w2 w5) := ⟨⟨(HJ2.out.1.next (belD _)).next hB5, (HJ2.out.2.next (belD _)).next hB5⟩, below_on (belD _) hB5⟩
      refine hK.out _ _ HJ5.out.2 (fun hS5 => ?_)
      clear hK K
      refine wpAnyH_take (i := 9) (v := .tuple #[.agg #[.int .i64 X.rate, .int .i64 X.ch, .int .i64 X.wd, .slice none 0 0, .int .i64 X.smp, .bool X.lit], .int .i64 E]) rfl (by kernel_rfl) (by kernel_rfl) (by kernel_rfl) (fun _ _ _ h => h) (Or.inl ⟨by rfl, fun w hSw => by have s1 := HSS.out _ hSw; go_simp⟩) hS5 ?_
      simp only [Act.put, List.getElem_toArray, List.getElem_cons_succ, List.getElem_cons_zero, List.setIfInBounds_toArray, List.set_cons_zero, List.set_cons_succ]
      refine wpAnyH_take (i := 10) (v := .agg #[.int .i64 X.rate, .int .i64 X.ch, .int .i64 X.wd, .slice none 0 0, .int .i64 X.smp, .bool X.lit]) rfl (by kernel_rfl) (by kernel_rfl) (by kernel_rfl) (fun _ _ _ h => h) (Or.inl ⟨by rfl, fun w hSw => by have s1 := HSS.out _ hSw; go_simp⟩) hS5 ?_
      simp only [Act.put, List.getElem_toArray, List.getElem_cons_succ, List.getElem_cons_zero, List.setIfInBounds_toArray, List.set_cons_zero, List.set_cons_succ]
      refine wpAnyH_take (i := 11) (v := .int .i64 E) rfl (by kernel_rfl) (by kernel_rfl) (by kernel_rfl) (fun _ _ _ h => h) (Or.inl ⟨by rfl, fun w hSw => by have s1 := HSS.out _ hSw; go_simp⟩) hS5 ?_
      simp only [Act.put, List.getElem_toArray, List.getElem_cons_succ, List.getElem_cons_zero, List.setIfInBounds_toArray, List.set_cons_zero, List.set_cons_succ]
      refine wpAnyH_ready (rs := [12]) (by kernel_rfl) (by simp) ?_
      refine AllReadyH.cons rfl (fun K hK => ?_) AllReadyH.nil
      go_simp
      refine hK.out _ _ (below_on HJ5.out.2 (belA _ _)) (fun hS6 => ?_)
      clear hK K
      refine wpAnyH_ready (rs := [13]) (by kernel_rfl) (by simp) ?_
      refine AllReadyH.cons rfl (fun K hK => ?_) AllReadyH.nil
      go_simp
      refine hK.out _ _ (below_on HJ5.out.2 (belA _ _)) (fun hS7 => ?_)
      clear hK K
      refine wpAnyH_take (i := 14) (v := .int .i64 E) rfl (by kernel_rfl) (by kernel_rfl) (by kernel_rfl) (fun _ _ _ h => h) (Or.inl ⟨by rfl, fun w hSw => by have s1 := HSS.out _ hSw; go_simp⟩) hS7 ?_
      simp only [Act.put, List.getElem_toArray, List.getElem_cons_succ, List.getElem_cons_zero, List.setIfInBounds_toArray, List.set_cons_zero, List.set_cons_succ]
      refine wpAnyH_done (by kernel_rfl) ?_ _
      go_wp2_with fail
      go_meet
      exact ⟨rfl, _, rfl, Jc7.new HJ5.out.1.1 HJ5.out.1.2 X⟩
     ·go_simp
      have HA : Hid ((Jn7 w (w2.alloc (.cells zeroQ 51)).drew ∧ OwnC (w.heap.size + 3) (some ⟨g, 0, none⟩) cap (opL s) (w2.alloc (.cells zeroQ 51)).drew) ∧ Below w2.heap.size w2 (w2.alloc (.cells zeroQ 51)).drew ∧ Box w2.heap.size zeroQ 51 (w2.alloc (.cells zeroQ 51)).drew) := ⟨⟨(HJ2.out.1.next (belA _ _)).next (belD _), (HJ2.out.2.next (belA _ _)).next (belD _)⟩, below_on (belA _ _) (belD _), (Box.new _ _ _).next (belD _)⟩
      refine hK.out _ _ HA.out.2.1 (fun hS5 => ?_)
      clear hK K
      refine wpAnyH_ready (rs := [8]) (by kernel_rfl) (by simp) ?_
      refine AllReadyH.cons rfl (fun K hK => ?_) AllReadyH.nil
      go_simp
      refine (KS.out _).mono ?_
      rintro e w5 ⟨rfl, hB5⟩
      have HJ5 : Hid ((Jn7 w w5 ∧ OwnC (w.heap.size + 3) (some ⟨g, 0, none⟩) cap (opL s) w5) ∧ Below w2.heap.size w2 w5 ∧ Box w2.heap.size zeroQ 51 w5 ∧ w.heap.size + 2 < w2.heap.size ∧ g < w2.heap.size) := ⟨⟨HA.out.1.1.next hB5, HA.out.1.2.next hB5⟩, below_on HA.out.2.1 hB5, HA.out.2.2.next hB5, lt_of_block HJ2.out.1.n, (World.ownsRow.lt HJ2.out.2 g rfl).2⟩
      refine hK.out _ _ HJ5.out.2.1 (fun hS6 => ?_)
      clear hK K HA hB5
      generalize hQ : w2.heap.size = Q at *
      refine wpAnyH_take (i := 9) (v := .tuple #[.agg #[.int .i64 X.rate, .int .i64 X.ch, .int .i64 X.wd, .slice none 0 0, .int .i64 X.smp, .bool X.lit], .int .i64 E]) rfl (by kernel_rfl) (by kernel_rfl) (by kernel_rfl) (fun _ _ _ h => h) (Or.inl ⟨by rfl, fun w hSw => by have s1 := HSS.out _ hSw; go_simp⟩) hS6 ?_
      simp only [Act.put, List.getElem_toArray, List.getElem_cons_succ, List.getElem_cons_zero, List.setIfInBounds_toArray, List.set_cons_zero, List.set_cons_succ]
      refine wpAnyH_take (i := 10) (v := .agg #[.int .i64 X.rate, .int .i64 X.ch, .int .i64 X.wd, .slice none 0 0, .int .i64 X.smp, .bool X.lit]) rfl (by kernel_rfl) (by kernel_rfl) (by kernel_rfl) (fun _ _ _ h => h) (Or.inl ⟨by rfl, fun w hSw => by have s1 := HSS.out _ hSw; go_simp⟩) hS6 ?_
      simp only [Act.put, List.getElem_toArray, List.getElem_cons_succ, List.getElem_cons_zero, List.setIfInBounds_toArray, List.set_cons_zero, List.set_cons_succ]
      refine wpAnyH_take (i := 11) (v := .int .i64 E) rfl (by kernel_rfl) (by kernel_rfl) (by kernel_rfl) (fun _ _ _ h => h) (Or.inl ⟨by rfl, fun w hSw => by have s1 := HSS.out _ hSw; go_simp⟩) hS6 ?_
      simp only [Act.put, List.getElem_toArray, List.getElem_cons_succ, List.getElem_cons_zero, List.setIfInBounds_toArray, List.set_cons_zero, List.set_cons_succ]
      have r0 := HJ5.out.2.2.1.c 0 _ rfl
      have z0 := HJ5.out.2.2.1.z 0
      have r1 := HJ5.out.2.2.1.c 1 _ rfl
      have z1 := HJ5.out.2.2.1.z 1
      have r2 := HJ5.out.2.2.1.c 2 _ rfl
      have z2 := HJ5.out.2.2.1.z 2
      have r3 := HJ5.out.2.2.1.c 3 _ rfl
      have z3 := HJ5.out.2.2.1.z 3
      have r4 := HJ5.out.2.2.1.c 4 _ rfl
      have z4 := HJ5.out.2.2.1.z 4
      have r5 := HJ5.out.2.2.1.c 5 _ rfl
      have z5 := HJ5.out.2.2.1.z 5
      have HJ6 : Hid (Jc7 w Q X (some ⟨g, 0, none⟩) cap (opL s) ((((((w5.setCell ⟨Q, 0, none⟩ (.int .i64 X.rate)).setCell ⟨Q, 1, none⟩ (.int .i64 X.ch)).setCell ⟨Q, 2, none⟩ (.int .i64 X.wd)).setCell ⟨Q, 3, none⟩ (.slice none 0 0)).setCell ⟨Q, 4, none⟩ (.int .i64 X.smp)).setCell ⟨Q, 5, none⟩ (.bool X.lit)) ∧ Below Q w2 ((((((w5.setCell ⟨Q, 0, none⟩ (.int .i64 X.rate)).setCell ⟨Q, 1, none⟩ (.int .i64 X.ch)).setCell ⟨Q, 2, none⟩ (.int .i64 X.wd)).setCell ⟨Q, 3, none⟩ (.slice none 0 0)).setCell ⟨Q, 4, none⟩ (.int .i64 X.smp)).setCell ⟨Q, 5, none⟩ (.bool X.lit))) := ⟨Jc7.zero HJ5.out.1.1 HJ5.out.1.2 HJ5.out.2.2.1 (fun k off e => by cases e; have := HJ5.out.2.2.2.2; omega) HJ5.out.2.2.2.1 X, (((((HJ5.out.2.1.setCell (Nat.le_refl _) _).setCell (Nat.le_refl _) _).setCell (Nat.le_refl _) _).setCell (Nat.le_refl _) _).setCell (Nat.le_refl _) _).setCell (Nat.le_refl _) _⟩
      refine wpAnyH_ready (rs := [13]) (by kernel_rfl) (by simp) ?_
      refine AllReadyH.cons rfl (fun K hK => ?_) AllReadyH.nil
      go_simp
      refine hK.out _ _ HJ6.out.2 (fun hS7 => ?_)
      clear hK K
      refine wpAnyH_take (i := 14) (v := .int .i64 E) rfl (by kernel_rfl) (by kernel_rfl) (by kernel_rfl) (fun _ _ _ h => h) (Or.inl ⟨by rfl, fun w hSw => by have s1 := HSS.out _ hSw; go_simp⟩) hS7 ?_
      simp only [Act.put, List.getElem_toArray, List.getElem_cons_succ, List.getElem_cons_zero, List.setIfInBounds_toArray, List.set_cons_zero, List.set_cons_succ]
      refine wpAnyH_done (by kernel_rfl) ?_ _
      go_wp2_with fail
      go_meet
      exact ⟨rfl, Q, rfl, HJ6.out.1⟩
    case rest =>
     obtain ⟨rfl, Q, rfl, hj⟩ := hcut
     have HC : Hid (Jc7 w Q X (some ⟨g, 0, none⟩) cap (opL s) wc) := hj
     clear hj HJ2 HSS KS
     rename World => wA
     have HXI : Hid (opX s = X ∧ opI s = S1) := ⟨HXD.out.1.trans HLX.out.2.1, HXD.out.2.1.trans (HLX.out.2.2.trans HSN.out)⟩
     cases hE : E != 0
     ·have hE0 : E = 0 := by simpa using hE
      have hgx := HGX.out hE0
      have HPE2 : Hid (p7E s = if cut7E (opL s) X S1 = 0 then uE (opS s) X.rate X.ch X.wd (!X.lit) false else 2) := by
       show _ = _
       rw [HPE.out, if_pos (HLX.out.1.trans hE0), HXI.out.1, HXI.out.2]
      rw [hE0]
      clear hE hE0 HGX HPE HLX
      have m1 := hgx.m1
      have m2 := hgx.m2
      have hw1 : wrap64 (X.smp * X.ch) = X.smp * X.ch := by unfold wrap64; omega
      have hw2 : wrap64 (X.smp * X.ch * X.wd) = X.smp * X.ch * X.wd := by unfold wrap64; omega
      have htd : (X.smp * X.ch * X.wd).tdiv 8 = X.smp * X.ch * X.wd / 8 := Int.tdiv_eq_ediv_of_nonneg m2.1
      have HWN : Hid (wantN X = X.smp * X.ch * X.wd / 8) := rfl
      have q0 := HC.out.bx.c 0 _ rfl
      have q1 := HC.out.bx.c 1 _ rfl
      have q2 := HC.out.bx.c 2 _ rfl
      have q3 := HC.out.bx.c 3 _ rfl
      have q4 := HC.out.bx.c 4 _ rfl
      have q5 := HC.out.bx.c 5 _ rfl
      go_upto_region 20 with fail
      clear m1 m2 hw1 hw2 htd q0 q1 q2 q3 q4 q5 hgx
      rw [← HWN.out]
      have CUTS : Hid (∀ I, cut7E (opL s) X I = if I != -1 && !stB (atC (opL s) I).body then 2 else if ((smpS (opL s) I).size : Int) != wantN X then 2 else 0) := fun I => rfl
      generalize wantN X = WN at *
      clear HWN
      have CUTN : Hid (cut7E (opL s) X (-1) = if ((smpS (opL s) (-1)).size : Int) != WN then 2 else 0) := by show _ = _; rw [CUTS.out (-1)]; rfl
      go_upto_if 111 with fail
      go_cut [14, 15, 16] from 110 to 144 (fun d b c wx => d = Value.string (smpS (opL s) S1) ∧ Jc7 w Q X (some ⟨g, 0, none⟩) cap (cut7L (opL s) S1) wx ∧ cut7E (opL s) X S1 = if ((smpS (opL s) S1).size : Int) != WN then 2 else 0)
      case first =>
       rcases HFM.out with ⟨q1, q2⟩ | ⟨k, d, q1, q2, q3⟩
       ·have hS1 : S1 = -1 := HSN.out.symm.trans q1
        subst hS1
        clear q1
        go_wp2_with fail
        go_meet
        exact ⟨rfl, HC.out, CUTN.out⟩
       ·have hS1 : S1 = (k : Int) := HSN.out.symm.trans q2
        subst hS1
        have hkl := (List.getElem?_eq_some_iff.1 q1).1
        have HDB : Hid (d.body.size ≤ 67108864) := HBD.out d (List.mem_of_getElem? q1)
        have hdz := HDB.out
        have hat := atC_get _ _ _ q1
        have hkn : ¬ ((k : Int) = -1) := by omega
        have hkb2 : ((k : Int) != -1) = true := by
         rw [bne_iff_ne]
         omega
        have HSP : Hid (wA.cell? ⟨g, k * 3 + 1, none⟩ = some (.string d.body) ∧ wA.frozen? ⟨g, k * 3 + 1, none⟩ = false) := by
         obtain ⟨g', e', _, _, _, y1, _, yz⟩ := HC.out.o.spot k d q1
         cases e'
         exact ⟨y1, yz _⟩
        have y1 := HSP.out.1
        have z1 := HSP.out.2
        have HCE : Hid (cut7E (opL s) X (k : Int) = if stB d.body then (if ((smpS (opL s) (k : Int)).size : Int) != WN then 2 else 0) else 2) := by
         show _ = _
         rw [CUTS.out (k : Int), hat, hkb2]
         cases stB d.body <;> rfl
        have HQ1 : Hid ((opL s)[k]? = some d) := q1
        clear q1 q2 HSP
        by_cases h8 : 8 ≤ d.body.size
        ·have h8b : decide ((d.body.size : Int) < 8) = false := decide_eq_false (by omega)
         have sld : ∀ wx, (Instr.slice 9 (.string d.body) none (some (.int .i64 4)) none).run Tryz.prog wx = .ok (.string (d.body.extract 0 4)) wx := fun wx => slice_upto d.body 4 (by omega) wx
         obtain ⟨m, hm⟩ : ∃ m : Nat, beI d.body 0 4 = (m : Int) := ⟨(beI d.body 0 4).toNat, by have := (beI_range d.body 0 4 (by omega)).1; omega⟩
         have hmr : m < 4294967296 := by have := (beI_range d.body 0 4 (by omega)).2; omega
         have kb4 : ∀ wx, Calls Tryz.prog 17 #[.string (d.body.extract 0 4)] wx fun e w' => e = .returned (.int .i64 (m : Int)) ∧ w' = wx := fun wx => by
          have := reffromBe_spec (d.body.extract 0 4) (by rw [ByteArray.size_extract]; omega) wx
          rw [show fromBe (bytesOf (d.body.extract 0 4)) = (m : Int) from hm] at this
          exact this
         have hsn : stN d.body = ((8 + m : Nat) : Int) := by
          unfold stN
          rw [hm]
          omega
         by_cases hmm : 8 + m ≤ d.body.size
         ·have hst : stB d.body = true := by
           unfold stB
           rw [hsn, decide_eq_true h8, decide_eq_true (by omega)]
           rfl
          have hdb : decide ((d.body.size : Int) - 8 < (m : Int)) = false := decide_eq_false (by omega)
          have sl1 : ∀ wx, (Instr.slice 9 (.string d.body) (some (.int .i64 (8 + (m : Int)))) none none).run Tryz.prog wx = .ok (.string (d.body.extract (8 + m) d.body.size)) wx := fun wx => slice_from d.body (8 + m) hmm wx
          have sl2 : ∀ wx, (Instr.slice 9 (.string d.body) none (some (.int .i64 (8 + (m : Int)))) none).run Tryz.prog wx = .ok (.string (d.body.extract 0 (8 + m))) wx := fun wx => slice_upto d.body (8 + m) hmm wx
          have HSMP : Hid (smpS (opL s) (k : Int) = d.body.extract (8 + m) d.body.size) := by
           show _ = _
           unfold smpS
           rw [if_neg hkn, hat, hsn, Int.toNat_natCast]
          have HCUT : Hid (cut7L (opL s) (k : Int) = (opL s).set k ⟨d.id, d.body.extract 0 (8 + m), d.pad⟩) := by
           show _ = _
           unfold cut7L cut7C
           rw [if_neg hkn, hat, Int.toNat_natCast, hsn, Int.toNat_natCast]
          rw [hst] at HCE
          simp only [if_true] at HCE
          have HSET : Hid (Jc7 w Q X (some ⟨g, 0, none⟩) cap (cut7L (opL s) (k : Int)) (wA.setCell ⟨g, k * 3 + 1, none⟩ (.string (d.body.extract 0 (8 + m))))) := by
           show Jc7 _ _ _ _ _ _ _
           rw [HCUT.out]
           exact HC.out.cut k d HQ1.out _
          clear hst hsn hm hat hkn hkb2 HCUT
          generalize hBB : d.body.extract (8 + m) d.body.size = BB at *
          generalize hBC : d.body.extract 0 (8 + m) = BC at *
          clear hBB hBC
          go_wp2_with fail
          refine (kb4 _).mono ?_
          rintro e wB ⟨rfl, hwB⟩
          rw [hwB]
          clear hwB wB
          go_wp2_with fail
          refine (kb4 _).mono ?_
          rintro e wB ⟨rfl, hwB⟩
          rw [hwB]
          clear hwB wB kb4
          go_wp2_with fail
          go_meet
          exact ⟨by rw [HSMP.out], HSET.out, HCE.out⟩
         ·have hst : stB d.body = false := by
           unfold stB
           rw [hsn, decide_eq_true h8, decide_eq_false (by omega)]
           rfl
          have hdb : decide ((d.body.size : Int) - 8 < (m : Int)) = true := decide_eq_true (by omega)
          have HE : Hid (p7E s = 2) := by
           show _ = _
           rw [HPE2.out, HCE.out, hst]
           rfl
          have HN2 : Hid (Jn7 w wA) := HC.out.n
          clear HPE2 HCE hst hsn hm hat hkn hkb2
          go_wp2_with fail
          refine (kb4 _).mono ?_
          rintro e wB ⟨rfl, hwB⟩
          rw [hwB]
          clear hwB wB kb4
          have p0 := HN2.out.z.p 0 _ rfl
          have pz0 := HN2.out.z.pz 0
          have n0 := HN2.out.c 0 _ rfl
          have p1 := HN2.out.z.p 1 _ rfl
          have pz1 := HN2.out.z.pz 1
          have n1 := HN2.out.c 1 _ rfl
          have p2 := HN2.out.z.p 2 _ rfl
          have pz2 := HN2.out.z.pz 2
          have n2 := HN2.out.c 2 _ rfl
          have p3 := HN2.out.z.p 3 _ rfl
          have pz3 := HN2.out.z.pz 3
          have n3 := HN2.out.c 3 _ rfl
          have a0 := HN2.out.z.sk 0 _ rfl
          have az0 := HN2.out.z.wz 0
          have a1 := HN2.out.z.sk 1 _ rfl
          have az1 := HN2.out.z.wz 1
          have HSM := HN2.out.same
          go_wp2_with fail
          exact bodyPost_ret (v := .tuple #[.agg zeroP7, .agg zeroW, .int .i64 (2)]) (res_parse7 rfl HN2.out.z.rp HN2.out.z.rw' rfl rfl _ _ rfl rfl rfl) rfl (givesE _ _ _ _ HE.out (by decide) HN2.out.z.below)
        ·have h8b : decide ((d.body.size : Int) < 8) = true := decide_eq_true (by omega)
         have hst : stB d.body = false := by
          unfold stB
          rw [decide_eq_false h8]
          rfl
         have HE : Hid (p7E s = 2) := by
          show _ = _
          rw [HPE2.out, HCE.out, hst]
          rfl
         have HN2 : Hid (Jn7 w wA) := HC.out.n
         clear HPE2 HCE hst hat hkn hkb2
         have p0 := HN2.out.z.p 0 _ rfl
         have pz0 := HN2.out.z.pz 0
         have n0 := HN2.out.c 0 _ rfl
         have p1 := HN2.out.z.p 1 _ rfl
         have pz1 := HN2.out.z.pz 1
         have n1 := HN2.out.c 1 _ rfl
         have p2 := HN2.out.z.p 2 _ rfl
         have pz2 := HN2.out.z.pz 2
         have n2 := HN2.out.c 2 _ rfl
         have p3 := HN2.out.z.p 3 _ rfl
         have pz3 := HN2.out.z.pz 3
         have n3 := HN2.out.c 3 _ rfl
         have a0 := HN2.out.z.sk 0 _ rfl
         have az0 := HN2.out.z.wz 0
         have a1 := HN2.out.z.sk 1 _ rfl
         have az1 := HN2.out.z.wz 1
         have HSM := HN2.out.same
         go_wp2_with fail
         exact bodyPost_ret (v := .tuple #[.agg zeroP7, .agg zeroW, .int .i64 (2)]) (res_parse7 rfl HN2.out.z.rp HN2.out.z.rw' rfl rfl _ _ rfl rfl rfl) rfl (givesE _ _ _ _ HE.out (by decide) HN2.out.z.below)
      case rest =>
       obtain ⟨rfl, hj, hce⟩ := hcut
       have HC4 : Hid (Jc7 w Q X (some ⟨g, 0, none⟩) cap (cut7L (opL s) S1) wc) := hj
       have HCE : Hid (cut7E (opL s) X S1 = if ((smpS (opL s) S1).size : Int) != WN then 2 else 0) := hce
       have HDL : Hid (opS s = smpS (opL s) S1 ∧ p7L s = cut7L (opL s) S1 ∧ p7P s = uP (opS s) X.rate X.ch X.wd (!X.lit) false) := by
        obtain ⟨_, _, x3, x4, x5, _⟩ := HXD.out
        rw [HXI.out.2] at x3 x4
        rw [HXI.out.1] at x5
        exact ⟨x3, x4, x5⟩
       have HSZ : Hid ((smpS (opL s) S1).size ≤ 67108864) := by
        show _ ≤ _
        rcases HFM.out with ⟨q1, _⟩ | ⟨k, d, q1, q2, _⟩
        ·rw [← HSN.out, q1]
         exact Nat.zero_le _
        ·rw [← HSN.out, q2]
         unfold smpS
         rw [if_neg (by omega), atC_get _ _ _ q1, ByteArray.size_extract]
         have := HBD.out d (List.mem_of_getElem? q1)
         omega
       clear hj hce HC HFM HSN HBD HXI
       generalize smpS (opL s) S1 = SM at *
       cases hw : (SM.size : Int) != WN
       ·have HE3 : Hid (cut7E (opL s) X S1 = 0) := HCE.out.trans (by rw [hw]; rfl)
        have HPE3 : Hid (p7E s = unpE SM X.rate X.ch X.wd (!X.lit) false) := by
         show _ = _
         rw [HPE2.out, if_pos HE3.out, HDL.out.1, uE_unpE]
        have HPP : Hid (p7P s = unpP SM X.rate X.ch X.wd (!X.lit) false) := by
         show _ = _
         rw [HDL.out.2.2, HDL.out.1, uP_unpP]
        have HPL : Hid (p7L s = cut7L (opL s) S1) := HDL.out.2.1
        have hpl : (opL s).length = (p7L s).length := by
         rw [HPL.out]
         unfold cut7L
         split
         ·rfl
         ·rw [List.length_set]
        rw [← HPL.out] at HC4
        have ku : ∀ wx, Calls Tryz.prog 21 #[.string SM, .int .i64 X.rate, .int .i64 X.ch, .int .i64 X.wd, .agg #[.bool (!X.lit), .bool false]] wx fun e w' => Gives wx (unpP SM X.rate X.ch X.wd (!X.lit) false) (unpE SM X.rate X.ch X.wd (!X.lit) false) e w' := fun wx => runpack_spec SM X.rate X.ch X.wd (!X.lit) false wx (by have := HSZ.out; omega)
        have HUN : Hid (unpE SM X.rate X.ch X.wd (!X.lit) false ≠ 0 → unpP SM X.rate X.ch X.wd (!X.lit) false = ⟨0, 0, 0, []⟩) := fun q => by unfold unpP; rw [if_neg q]; rfl
        rw [hpl]
        clear HPE2 HCE HE3 HDL HSZ hpl HPL
        generalize unpE SM X.rate X.ch X.wd (!X.lit) false = UE at *
        generalize unpP SM X.rate X.ch X.wd (!X.lit) false = q at *
        have q0 := HC4.out.bx.c 0 _ rfl
        have q1 := HC4.out.bx.c 1 _ rfl
        have q2 := HC4.out.bx.c 2 _ rfl
        have q3 := HC4.out.bx.c 3 _ rfl
        have q4 := HC4.out.bx.c 4 _ rfl
        have q5 := HC4.out.bx.c 5 _ rfl
        go_wp2_with fail
        refine (ku _).mono ?_
        rintro e w7 ⟨po, pc, rfl, hr7, hf7, hB7⟩
        have HC7 : Hid (Jn7 w (w7.alloc (.cells (pcmC q po pc) 24)) ∧ OwnC (w.heap.size + 3) (some ⟨g, 0, none⟩) cap (p7L s) (w7.alloc (.cells (pcmC q po pc) 24)) ∧ RowsAt (w7.alloc (.cells (pcmC q po pc) 24)) po q.pl ∧ FreshQ (w.heap.size + 3) (w7.alloc (.cells (pcmC q po pc) 24)) po q.pl ∧ Box w7.heap.size (pcmC q po pc) 24 (w7.alloc (.cells (pcmC q po pc) 24)) ∧ w.heap.size + 2 < w7.heap.size) := ⟨(HC4.out.n.next hB7).next (belA _ _), (HC4.out.o.next hB7).next (belA _ _), hr7.below (belA _ _), (FreshQ.of (hf7.mono (lt_of_block HC4.out.n.n))).below hr7 (belA _ _), Box.new _ _ _, lt_of_block (HC4.out.n.next hB7).n⟩
        clear ku hr7 hf7 hB7 HC4 q0 q1 q2 q3 q4 q5 hw
        cases hu : UE != 0
        ·have hu0 : UE = 0 := by simpa using hu
         have HP0 : Hid (p7E s = 0) := HPE3.out.trans hu0
         rw [hu0]
         clear hu hu0 HPE3 HUN
         go_upto_region 32 with fail
         generalize hw8 : World.alloc w7 _ = w8
         have HC8 : Hid (Jn7 w w8 ∧ OwnC (w.heap.size + 3) (some ⟨g, 0, none⟩) cap (p7L s) w8 ∧ RowsAt w8 po q.pl ∧ FreshQ (w.heap.size + 3) w8 po q.pl ∧ Box w7.heap.size (pcmC q po pc) 24 w8 ∧ w.heap.size + 2 < w7.heap.size) := by
          rw [← hw8]
          exact HC7.out
         generalize w7.heap.size = Q7 at *
         clear hw8 HC7
         have lo := HC8.out.2.2.2.2.2
         have b0 := HC8.out.2.2.2.2.1.c 0 _ rfl
         have b1 := HC8.out.2.2.2.2.1.c 1 _ rfl
         have b2 := HC8.out.2.2.2.2.1.c 2 _ rfl
         have b3 := HC8.out.2.2.2.2.1.c 3 _ rfl
         have p0 := HC8.out.1.z.p 0 _ rfl
         have pz0 := HC8.out.1.z.pz 0
         have p1 := HC8.out.1.z.p 1 _ rfl
         have pz1 := HC8.out.1.z.pz 1
         have p2 := HC8.out.1.z.p 2 _ rfl
         have pz2 := HC8.out.1.z.pz 2
         have p3 := HC8.out.1.z.p 3 _ rfl
         have pz3 := HC8.out.1.z.pz 3
         have a0 := HC8.out.1.z.sk 0 _ rfl
         have az0 := HC8.out.1.z.wz 0
         have a1 := HC8.out.1.z.sk 1 _ rfl
         have az1 := HC8.out.1.z.wz 1
         have HF : Hid (∀ wf', wf' = ((((((w8.setCell ⟨w.heap.size, 0, none⟩ (.int .i64 q.rate)).setCell ⟨w.heap.size, 1, none⟩ (.int .i64 q.ch)).setCell ⟨w.heap.size, 2, none⟩ (.int .i64 q.wd)).setCell ⟨w.heap.size, 3, none⟩ (.slice po q.pl.length pc)).setCell ⟨w.heap.size + 1, 0, none⟩ (.string (s.extract 8 12))).setCell ⟨w.heap.size + 1, 1, none⟩ (.slice (some ⟨g, 0, none⟩) (p7L s).length cap)) → Ja7 w (pcmC q po pc) #[.string (s.extract 8 12), .slice (some ⟨g, 0, none⟩) (p7L s).length cap] wf' ∧ RowsAt wf' po q.pl ∧ ChksAt wf' (some ⟨g, 0, none⟩) (p7L s)) := fun wf' e => by
          subst e
          obtain ⟨j1, j2, j3, j4, _, _⟩ := HC8.out
          refine ⟨(((((j1.z.setP 0 _).setP 1 _).setP 2 _).setP 3 _).setW 0 _).setW 1 _, ?_, ?_⟩
          ·obtain ⟨m1, n1⟩ := j3.setQ j4 (a := ⟨w.heap.size, 0, none⟩) (by show w.heap.size < _; omega) (.int .i64 q.rate)
           obtain ⟨m2, n2⟩ := m1.setQ n1 (a := ⟨w.heap.size, 1, none⟩) (by show w.heap.size < _; omega) (.int .i64 q.ch)
           obtain ⟨m3, n3⟩ := m2.setQ n2 (a := ⟨w.heap.size, 2, none⟩) (by show w.heap.size < _; omega) (.int .i64 q.wd)
           obtain ⟨m4, n4⟩ := m3.setQ n3 (a := ⟨w.heap.size, 3, none⟩) (by show w.heap.size < _; omega) (.slice po q.pl.length pc)
           obtain ⟨m5, n5⟩ := m4.setQ n4 (a := ⟨w.heap.size + 1, 0, none⟩) (by show w.heap.size + 1 < _; omega) (.string (s.extract 8 12))
           exact (m5.setQ n5 (a := ⟨w.heap.size + 1, 1, none⟩) (by show w.heap.size + 1 < _; omega) _).1
          ·exact OwnC.at ((((((j2.other (a := ⟨w.heap.size, 0, none⟩) (by show w.heap.size < _; omega) _).other (a := ⟨w.heap.size, 1, none⟩) (by show w.heap.size < _; omega) _).other (a := ⟨w.heap.size, 2, none⟩) (by show w.heap.size < _; omega) _).other (a := ⟨w.heap.size, 3, none⟩) (by show w.heap.size < _; omega) _).other (a := ⟨w.heap.size + 1, 0, none⟩) (by show w.heap.size + 1 < _; omega) _).other (a := ⟨w.heap.size + 1, 1, none⟩) (by show w.heap.size + 1 < _; omega) _)
         have HGB : Hid (∀ w', Below w.heap.size w w' → RowsAt w' po q.pl → ChksAt w' (some ⟨g, 0, none⟩) (p7L s) → GivesB7 w s (.returned (.tuple #[pcmV q po pc, .agg (waveC (s.extract 8 12) (p7L s) (some ⟨g, 0, none⟩) cap), .int .i64 0])) w') := fun w' hB hr hc =>
          ⟨q, po, pc, s.extract 8 12, p7L s, some ⟨g, 0, none⟩, cap, by rw [HP0.out], hB, hr, hc, fun _ => ⟨HPP.out.symm, HXD.out.2.2.2.2.2.symm, rfl⟩, fun n => absurd HP0.out n⟩
         go_region
         all_goals go_wp2_with fail
         all_goals (generalize hwz : World.setCell _ _ _ = wz; obtain ⟨g1, g2, g3⟩ := HF.out wz hwz.symm; exact bodyPost_ret (v := .tuple #[pcmV q po pc, .agg (waveC (s.extract 8 12) (p7L s) (some ⟨g, 0, none⟩) cap), .int .i64 0]) (res_parse7 rfl (show wz.drew.heap[w.heap.size]? = _ from g1.rp) (show wz.drew.heap[w.heap.size + 1]? = _ from g1.rw') rfl rfl _ _ rfl rfl rfl) rfl (HGB.out _ (below_on g1.below (belD _)) (g2.below (belD _)) (g3.below (belD _))))
        ·have hun : UE ≠ 0 := by simpa using hu
         have HUE : Hid (UE ≠ 0) := hun
         have HE : Hid (p7E s = UE) := HPE3.out
         clear hun HPE3 HUN HPP
         go_upto_region 31 with fail
         generalize hw8 : World.alloc w7 _ = w8
         have HN8 : Hid (Jn7 w w8) := by
          rw [← hw8]
          exact HC7.out.1
         clear hw8 HC7
         have p0 := HN8.out.z.p 0 _ rfl
         have pz0 := HN8.out.z.pz 0
         have n0 := HN8.out.c 0 _ rfl
         have p1 := HN8.out.z.p 1 _ rfl
         have pz1 := HN8.out.z.pz 1
         have n1 := HN8.out.c 1 _ rfl
         have p2 := HN8.out.z.p 2 _ rfl
         have pz2 := HN8.out.z.pz 2
         have n2 := HN8.out.c 2 _ rfl
         have p3 := HN8.out.z.p 3 _ rfl
         have pz3 := HN8.out.z.pz 3
         have n3 := HN8.out.c 3 _ rfl
         have a0 := HN8.out.z.sk 0 _ rfl
         have az0 := HN8.out.z.wz 0
         have a1 := HN8.out.z.sk 1 _ rfl
         have az1 := HN8.out.z.wz 1
         have HSM := HN8.out.same
         go_wp2_with fail
         exact bodyPost_ret (v := .tuple #[.agg zeroP7, .agg zeroW, .int .i64 (UE)]) (res_parse7 rfl HN8.out.z.rp HN8.out.z.rw' rfl rfl _ _ rfl rfl rfl) rfl (givesE _ _ _ _ HE.out HUE.out HN8.out.z.below)
       ·have HE : Hid (p7E s = 2) := by
         show _ = _
         rw [HPE2.out, if_neg (by rw [HCE.out, hw]; decide)]
        have HN4 : Hid (Jn7 w wc) := HC4.out.n
        clear HPE2 HCE HDL HSZ HC4 HXD
        have p0 := HN4.out.z.p 0 _ rfl
        have pz0 := HN4.out.z.pz 0
        have n0 := HN4.out.c 0 _ rfl
        have p1 := HN4.out.z.p 1 _ rfl
        have pz1 := HN4.out.z.pz 1
        have n1 := HN4.out.c 1 _ rfl
        have p2 := HN4.out.z.p 2 _ rfl
        have pz2 := HN4.out.z.pz 2
        have n2 := HN4.out.c 2 _ rfl
        have p3 := HN4.out.z.p 3 _ rfl
        have pz3 := HN4.out.z.pz 3
        have n3 := HN4.out.c 3 _ rfl
        have a0 := HN4.out.z.sk 0 _ rfl
        have az0 := HN4.out.z.wz 0
        have a1 := HN4.out.z.sk 1 _ rfl
        have az1 := HN4.out.z.wz 1
        have HSM := HN4.out.same
        go_wp2_with fail
        exact bodyPost_ret (v := .tuple #[.agg zeroP7, .agg zeroW, .int .i64 (2)]) (res_parse7 rfl HN4.out.z.rp HN4.out.z.rw' rfl rfl _ _ rfl rfl rfl) rfl (givesE _ _ _ _ HE.out (by decide) HN4.out.z.below)
     ·have hn : E ≠ 0 := by simpa using hE
      have HNE : Hid (E ≠ 0) := hn
      have HE : Hid (p7E s = E) := by
       show _ = _
       rw [HPE.out, if_neg (by rw [HLX.out.1]; exact hn), HLX.out.1]
      have HN3 : Hid (Jn7 w wA) := HC.out.n
      clear HPE HLX HXD HGX HFM HSN hn HXI HBD
      have p0 := HN3.out.z.p 0 _ rfl
      have pz0 := HN3.out.z.pz 0
      have n0 := HN3.out.c 0 _ rfl
      have p1 := HN3.out.z.p 1 _ rfl
      have pz1 := HN3.out.z.pz 1
      have n1 := HN3.out.c 1 _ rfl
      have p2 := HN3.out.z.p 2 _ rfl
      have pz2 := HN3.out.z.pz 2
      have n2 := HN3.out.c 2 _ rfl
      have p3 := HN3.out.z.p 3 _ rfl
      have pz3 := HN3.out.z.pz 3
      have n3 := HN3.out.c 3 _ rfl
      have a0 := HN3.out.z.sk 0 _ rfl
      have az0 := HN3.out.z.wz 0
      have a1 := HN3.out.z.sk 1 _ rfl
      have az1 := HN3.out.z.wz 1
      have HSM := HN3.out.same
      go_wp2_with fail
      exact bodyPost_ret (v := .tuple #[.agg zeroP7, .agg zeroW, .int .i64 (E)]) (res_parse7 rfl HN3.out.z.rp HN3.out.z.rw' rfl rfl _ _ rfl rfl rfl) rfl (givesE _ _ _ _ HE.out HNE.out HN3.out.z.below)
   ·have HE : Hid (p7E s = 2) := by
     have hb : lkB (opF s) (opL s) = false := by
      unfold lkB
      rw [hm1]
      simp
     have h2e : lkE (opF s) (opL s) = 2 := by unfold lkE; rw [hb]; rfl
     show _ = _
     rw [HPE.out, if_neg (by rw [h2e]; decide), h2e]
    clear HPE HXD HO2 HBD
    generalize (findN (opL s) commT) = C2 at *
    generalize (findN (opL s) ssndT) = S2 at *
    have p0 := HJ2a.out.z.p 0 _ rfl
    have pz0 := HJ2a.out.z.pz 0
    have n0 := HJ2a.out.c 0 _ rfl
    have p1 := HJ2a.out.z.p 1 _ rfl
    have pz1 := HJ2a.out.z.pz 1
    have n1 := HJ2a.out.c 1 _ rfl
    have p2 := HJ2a.out.z.p 2 _ rfl
    have pz2 := HJ2a.out.z.pz 2
    have n2 := HJ2a.out.c 2 _ rfl
    have p3 := HJ2a.out.z.p 3 _ rfl
    have pz3 := HJ2a.out.z.pz 3
    have n3 := HJ2a.out.c 3 _ rfl
    have a0 := HJ2a.out.z.sk 0 _ rfl
    have az0 := HJ2a.out.z.wz 0
    have a1 := HJ2a.out.z.sk 1 _ rfl
    have az1 := HJ2a.out.z.wz 1
    have HSM := HJ2a.out.same
    go_wp2_with fail
    exact bodyPost_ret (v := .tuple #[.agg zeroP7, .agg zeroW, .int .i64 (2)]) (res_parse7 rfl HJ2a.out.z.rp HJ2a.out.z.rw' rfl rfl _ _ rfl rfl rfl) rfl (givesE _ _ _ _ HE.out (by decide) HJ2a.out.z.below)
  ·have HE : Hid (p7E s = 2) := by
    have hb : lkB (opF s) (opL s) = false := by
     unfold lkB
     rw [show ((findN (opL s) commT).2 == 1) = false from by simpa using hn1]
     simp
    have h2e : lkE (opF s) (opL s) = 2 := by unfold lkE; rw [hb]; rfl
    show _ = _
    rw [HPE.out, if_neg (by rw [h2e]; decide), h2e]
   clear HPE HXD HO2 HBD
   generalize (findN (opL s) commT) = C2 at *
   generalize (findN (opL s) ssndT) = S2 at *
   have p0 := HJ2a.out.z.p 0 _ rfl
   have pz0 := HJ2a.out.z.pz 0
   have n0 := HJ2a.out.c 0 _ rfl
   have p1 := HJ2a.out.z.p 1 _ rfl
   have pz1 := HJ2a.out.z.pz 1
   have n1 := HJ2a.out.c 1 _ rfl
   have p2 := HJ2a.out.z.p 2 _ rfl
   have pz2 := HJ2a.out.z.pz 2
   have n2 := HJ2a.out.c 2 _ rfl
   have p3 := HJ2a.out.z.p 3 _ rfl
   have pz3 := HJ2a.out.z.pz 3
   have n3 := HJ2a.out.c 3 _ rfl
   have a0 := HJ2a.out.z.sk 0 _ rfl
   have az0 := HJ2a.out.z.wz 0
   have a1 := HJ2a.out.z.sk 1 _ rfl
   have az1 := HJ2a.out.z.wz 1
   have HSM := HJ2a.out.same
   go_wp2_with fail
   exact bodyPost_ret (v := .tuple #[.agg zeroP7, .agg zeroW, .int .i64 (2)]) (res_parse7 rfl HJ2a.out.z.rp HJ2a.out.z.rw' rfl rfl _ _ rfl rfl rfl) rfl (givesE _ _ _ _ HE.out (by decide) HJ2a.out.z.below)

end Go.Proofs.YtaepgjheknkojaaGreat
