/- Own text: the program's readCoefs. -/
import Derived.Test.YtkhdkmdiblomhaaG30x
namespace Go.Proofs.Ytkhdkmdiblomhaa
open Go.RowKit
set_option linter.unusedSimpArgs false
set_option linter.unusedVariables false

def coefN (s : ByteArray) (a : Nat) (o : Int) : Option (Int × Int × List Int × Nat) :=
  if getE s a 4 = 0 ∧ ¬ getV s a 4 = 15 ∧ getE s (getA s a 4) 5 = 0 ∧ getV s (getA s a 4) 5 ≤ 15 then
    match rdAll s 0 (getV s a 4 + 1) o.toNat (getA s (getA s a 4) 5) with
    | none => none
    | some (C, a1) => some (getV s a 4 + 1, getV s (getA s a 4) 5, C, a1)
  else none
theorem coefN_no (s : ByteArray) (a : Nat) (o : Int) (h : ¬ (getE s a 4 = 0 ∧ ¬ getV s a 4 = 15 ∧ getE s (getA s a 4) 5 = 0 ∧ getV s (getA s a 4) 5 ≤ 15)) : coefN s a o = none := by unfold coefN; rw [if_neg h]
set_option maxRecDepth 20000 in
set_option maxHeartbeats 3200000 in
theorem s_rcoefs (x : Nat) (s : ByteArray) (hs : s.size ≤ 1000000000000000000) (a : Nat) (ha : a ≤ 8 * s.size) (g : Nat) (k o sw : Int) (ho0 : 1 ≤ o) (ho1 : o ≤ 32) (w : World) (hrd : Rd w x s a) (hbx : w.heap[g]? = some (.cells (subC ⟨k, o, sw, 0, 0, [], R0⟩ none 0 none 0 none 0) 26 (0, 0))) (hxg : x ≠ g) :
    Calls Try.prog 46 #[.pointer (some ⟨x, 0, none⟩), .pointer (some ⟨g, 0, none⟩)] w fun e w' => Stays (XG x g) w w' ∧ OPost (coefN s a o) (e = .returned (.bool false)) (fun r => e = .returned (.bool true) ∧ ∃ ca cc, w'.heap[g]? = some (.cells (subC ⟨k, o, sw, r.1, r.2.1, r.2.2.1, R0⟩ ca cc none 0 none 0) 26 (0, 0)) ∧ RowS w.heap.size ca cc r.2.2.1 w' ∧ Rd w' x s r.2.2.2) := by
  have hgw := lt_of_block hbx
  have g4 := getA_le s a 4 ha
  have g5 := getA_le s (getA s a 4) 5 g4
  have kn := s_num x s hs a ha 4 (by decide) (by decide) w hrd
  have KN5 : Hid (∀ wx, Rd wx x s (getA s a 4) → Calls Try.prog 41 #[.pointer (some ⟨x, 0, none⟩), .int .i64 5] wx fun en w' => en = .returned (.tuple #[.int .i64 (getV s (getA s a 4) 5), .bool (getE s (getA s a 4) 5 == 0)]) ∧ Rd w' x s (getA s (getA s a 4) 5) ∧ Stays (only x) wx w') := fun wx hh => s_num x s hs (getA s a 4) g4 5 (by decide) (by decide) wx hh
  have HBX : Hid (w.heap[g]? = some (.cells (subC ⟨k, o, sw, 0, 0, [], R0⟩ none 0 none 0 none 0) 26 (0, 0))) := hbx
  have b4 := getV_bound s a 4
  have p4 : (2 : Int) ^ (4 : Int).toNat = 16 := rfl
  rw [p4] at b4
  have b5 := getV_bound s (getA s a 4) 5
  have p5 : (2 : Int) ^ (5 : Int).toNat = 32 := rfl
  rw [p5] at b5
  clear hrd hbx p4 p5
  by_cases e4 : getE s a 4 = 0
  case neg =>
    have HN : Hid (coefN s a o = none) := coefN_no s a o (fun h => e4 h.1)
    have hb4 : (getE s a 4 == 0) = false := by rw [beq_eq_false_iff_ne]; exact e4
    rw [hb4] at kn
    clear hb4 e4
    generalize getV s a 4 = vv at *
    go_enter Try.func46, Try.ntmps46
    go_wp2_with fail
    refine kn.mono ?_
    rintro e w1 ⟨rfl, h2, h3⟩
    have HS1 : Hid (Stays (XG x g) w w1) := only_s2 h3
    have HB1 : Hid (w1.heap[g]? = some (.cells (subC ⟨k, o, sw, 0, 0, [], R0⟩ none 0 none 0 none 0) 26 (0, 0))) := by show _ = _; rw [h3.block _ hgw (fun e => hxg (Eq.symm e))]; exact HBX.out
    have HR1 : Hid (Rd w1 x s (getA s a 4)) := h2
    clear kn h2 h3 HBX
    go_wp2_with fail
    go_ret
    exact ⟨HS1.out, OPost.none_ HN.out rfl⟩
  have hb4 : (getE s a 4 == 0) = true := by rw [beq_iff_eq]; exact e4
  rw [hb4] at kn
  clear hb4
  by_cases v4 : getV s a 4 = 15
  · have HN : Hid (coefN s a o = none) := coefN_no s a o (fun h => h.2.1 v4)
    rw [v4] at kn
    clear v4 e4
    go_enter Try.func46, Try.ntmps46
    go_wp2_with fail
    refine kn.mono ?_
    rintro e w1 ⟨rfl, h2, h3⟩
    have HS1 : Hid (Stays (XG x g) w w1) := only_s2 h3
    have HB1 : Hid (w1.heap[g]? = some (.cells (subC ⟨k, o, sw, 0, 0, [], R0⟩ none 0 none 0 none 0) 26 (0, 0))) := by show _ = _; rw [h3.block _ hgw (fun e => hxg (Eq.symm e))]; exact HBX.out
    have HR1 : Hid (Rd w1 x s (getA s a 4)) := h2
    clear kn h2 h3 HBX
    go_wp2_with fail
    go_ret
    exact ⟨HS1.out, OPost.none_ HN.out rfl⟩
  by_cases e5 : getE s (getA s a 4) 5 = 0
  case neg =>
    have HN : Hid (coefN s a o = none) := coefN_no s a o (fun h => e5 h.2.2.1)
    have hb5 : (getE s (getA s a 4) 5 == 0) = false := by rw [beq_eq_false_iff_ne]; exact e5
    rw [hb5] at KN5
    clear hb5 e5 e4
    have v4' : getV s a 4 ≤ 14 := by omega
    generalize getV s a 4 = vv at *
    generalize getV s (getA s a 4) 5 = v5 at *
    go_enter Try.func46, Try.ntmps46
    go_wp2_with fail
    refine kn.mono ?_
    rintro e w1 ⟨rfl, h2, h3⟩
    have HS1 : Hid (Stays (XG x g) w w1) := only_s2 h3
    have HB1 : Hid (w1.heap[g]? = some (.cells (subC ⟨k, o, sw, 0, 0, [], R0⟩ none 0 none 0 none 0) 26 (0, 0))) := by show _ = _; rw [h3.block _ hgw (fun e => hxg (Eq.symm e))]; exact HBX.out
    have HR1 : Hid (Rd w1 x s (getA s a 4)) := h2
    clear kn h2 h3 HBX
    have kn2 := KN5.out w1 HR1.out
    go_wp2_with fail
    refine kn2.mono ?_
    rintro e w2 ⟨rfl, h2, h3⟩
    have HS2 : Hid (Stays (XG x g) w w2) := HS1.out.s2 h3
    have HB2 : Hid (w2.heap[g]? = some (.cells (subC ⟨k, o, sw, 0, 0, [], R0⟩ none 0 none 0 none 0) 26 (0, 0))) := by show _ = _; rw [h3.block _ (lt_of_block HB1.out) (fun e => hxg (Eq.symm e))]; exact HB1.out
    have HR2 : Hid (Rd w2 x s (getA s (getA s a 4) 5)) := h2
    clear kn2 h2 h3 HS1 HB1 HR1 KN5
    go_wp2_with fail
    go_ret
    exact ⟨HS2.out, OPost.none_ HN.out rfl⟩
  have hb5 : (getE s (getA s a 4) 5 == 0) = true := by rw [beq_iff_eq]; exact e5
  rw [hb5] at KN5
  clear hb5
  by_cases v5 : getV s (getA s a 4) 5 ≤ 15
  case neg =>
    have HN : Hid (coefN s a o = none) := coefN_no s a o (fun h => v5 h.2.2.2)
    clear e5 e4
    have v4' : getV s a 4 ≤ 14 := by omega
    generalize getV s a 4 = vv at *
    generalize getV s (getA s a 4) 5 = v5 at *
    go_enter Try.func46, Try.ntmps46
    go_wp2_with fail
    refine kn.mono ?_
    rintro e w1 ⟨rfl, h2, h3⟩
    have HS1 : Hid (Stays (XG x g) w w1) := only_s2 h3
    have HB1 : Hid (w1.heap[g]? = some (.cells (subC ⟨k, o, sw, 0, 0, [], R0⟩ none 0 none 0 none 0) 26 (0, 0))) := by show _ = _; rw [h3.block _ hgw (fun e => hxg (Eq.symm e))]; exact HBX.out
    have HR1 : Hid (Rd w1 x s (getA s a 4)) := h2
    clear kn h2 h3 HBX
    have kn2 := KN5.out w1 HR1.out
    go_wp2_with fail
    refine kn2.mono ?_
    rintro e w2 ⟨rfl, h2, h3⟩
    have HS2 : Hid (Stays (XG x g) w w2) := HS1.out.s2 h3
    have HB2 : Hid (w2.heap[g]? = some (.cells (subC ⟨k, o, sw, 0, 0, [], R0⟩ none 0 none 0 none 0) 26 (0, 0))) := by show _ = _; rw [h3.block _ (lt_of_block HB1.out) (fun e => hxg (Eq.symm e))]; exact HB1.out
    have HR2 : Hid (Rd w2 x s (getA s (getA s a 4) 5)) := h2
    clear kn2 h2 h3 HS1 HB1 HR1 KN5
    go_wp2_with fail
    go_ret
    exact ⟨HS2.out, OPost.none_ HN.out rfl⟩
  have HCN : Hid (coefN s a o = match rdAll s 0 (getV s a 4 + 1) o.toNat (getA s (getA s a 4) 5) with
    | none => none
    | some (C, a1) => some (getV s a 4 + 1, getV s (getA s a 4) 5, C, a1)) := by show _ = _; unfold coefN; rw [if_pos ⟨e4, v4, e5, v5⟩]
  have v4' : getV s a 4 + 1 ≤ 15 := by omega
  have v4p : 1 ≤ getV s a 4 + 1 := by omega
  have ke0 := fun wx hh => s_reach x s hs (getA s (getA s a 4) 5) g5 o.toNat (by omega) (getV s a 4 + 1) v4p (by omega) wx hh
  clear e4 e5 v4 g5
  obtain ⟨b40, _⟩ := b4
  generalize getV s a 4 = vv at *
  generalize getV s (getA s a 4) 5 = hh at *
  generalize getA s (getA s a 4) 5 = a5 at *
  obtain ⟨pp, hpp⟩ : ∃ pp, pp = vv + 1 := ⟨_, rfl⟩
  rw [← hpp] at ke0 HCN v4' v4p
  have hto : ((o.toNat : Nat) : Int) = o := by omega
  rw [hto] at ke0
  have hpe : vv + 1 = pp := hpp.symm
  have hppg : ¬ 15 < pp := by omega
  cases hR : rdAll s 0 pp o.toNat a5 with
  | none =>
    have HN : Hid (coefN s a o = none) := by show _ = _; rw [HCN.out, hR]
    have KE : Hid (∀ wx, Rd wx x s a5 → Calls Try.prog 44 #[.pointer (some ⟨x, 0, none⟩), .int .i64 o, .int .i64 pp] wx fun e w' => Stays (only x) wx w' ∧ e = .returned (.tuple #[.slice none 0 0, .bool false])) := fun wx hh => (ke0 wx hh).mono fun e w' h => by
      obtain ⟨h1, h2⟩ := h
      rw [hR] at h2
      exact ⟨h1, h2⟩
    clear ke0 hR HCN hpp
    go_enter Try.func46, Try.ntmps46
    go_wp2_with fail
    refine kn.mono ?_
    rintro e w1 ⟨rfl, h2, h3⟩
    have HS1 : Hid (Stays (XG x g) w w1) := only_s2 h3
    have HB1 : Hid (w1.heap[g]? = some (.cells (subC ⟨k, o, sw, 0, 0, [], R0⟩ none 0 none 0 none 0) 26 (0, 0))) := by show _ = _; rw [h3.block _ hgw (fun e => hxg (Eq.symm e))]; exact HBX.out
    have HR1 : Hid (Rd w1 x s (getA s a 4)) := h2
    clear kn h2 h3 HBX
    have kn2 := KN5.out w1 HR1.out
    go_wp2_with fail
    refine kn2.mono ?_
    rintro e w2 ⟨rfl, h2, h3⟩
    have HS2 : Hid (Stays (XG x g) w w2) := HS1.out.s2 h3
    have HB2 : Hid (w2.heap[g]? = some (.cells (subC ⟨k, o, sw, 0, 0, [], R0⟩ none 0 none 0 none 0) 26 (0, 0))) := by show _ = _; rw [h3.block _ (lt_of_block HB1.out) (fun e => hxg (Eq.symm e))]; exact HB1.out
    have HR2 : Hid (Rd w2 x s a5) := h2
    clear kn2 h2 h3 HS1 HB1 HR1 KN5

    obtain ⟨x0, x1, x2, x3, x4, x5, x6, x7, x8, x9⟩ := sub_cells HB2.out
    have fx3 := row_frozen HB2.out 3
    have fx4 := row_frozen HB2.out 4
    go_upto_region 8 with fail
    generalize hwm : World.setCell _ _ _ = w3 at *
    have HB3 : Hid (w3.heap[g]? = some (.cells (subC ⟨k, o, sw, pp, hh, [], R0⟩ none 0 none 0 none 0) 26 (0, 0))) := by
      show _ = _
      rw [← hwm, block_setCell _ _ _ _ _ _ (block_setCell _ _ _ _ _ _ HB2.out)]
      simp only [List.setIfInBounds_toArray, List.set_cons_zero, List.set_cons_succ]
    have HS3d : Hid (Stays (XG x g) w w3.drew) := by
      have h0 : Stays (XG x g) w w3 := by rw [← hwm]; exact (HS2.out.setCell _ _ (Or.inl (Or.inr rfl))).setCell _ _ (Or.inl (Or.inr rfl))
      exact h0.drew
    have HR3d : Hid (Rd w3.drew x s a5) := by
      have h0 : Rd w3 x s a5 := by rw [← hwm]; exact (HR2.out.other _ _ (by show g ≠ x; exact fun e => hxg e.symm)).other _ _ (by show g ≠ x; exact fun e => hxg e.symm)
      exact h0
    clear hwm HB2 HS2 HR2 x0 x1 x2 x3 x4 x5 x6 x7 x8 x9 fx3 fx4
    refine wp_region_held_drew (S := fun wx => ∃ z, wx.heap[g]? = some (.cells #[.int .i64 k, .int .i64 o, .int .i64 sw, .int .i64 pp, .int .i64 hh, z, .int .i64 0, .int .i64 0, .slice none 0 0, .slice none 0 0] 26 (0, 0))) (by kernel_rfl) ⟨_, HB3.out⟩ (fun hS => ?_)
    refine wpAnyH_take (i := 0) (v := .pointer (some ⟨g, 0, none⟩)) rfl (by kernel_rfl) (by kernel_rfl) (by kernel_rfl) (fun _ _ _ h => h) (Or.inl ⟨by rfl, fun w hSw => by go_simp⟩) hS ?_
    simp only [Act.put, List.getElem_toArray, List.getElem_cons_succ, List.getElem_cons_zero, List.setIfInBounds_toArray, List.set_cons_zero, List.set_cons_succ]
    refine wpAnyH_take (i := 1) (v := .pointer (some ⟨x, 0, none⟩)) rfl (by kernel_rfl) (by kernel_rfl) (by kernel_rfl) (fun _ _ _ h => h) (Or.inl ⟨by rfl, fun w hSw => by go_simp⟩) hS ?_
    simp only [Act.put, List.getElem_toArray, List.getElem_cons_succ, List.getElem_cons_zero, List.setIfInBounds_toArray, List.set_cons_zero, List.set_cons_succ]
    refine wpAnyH_take (i := 2) (v := .pointer (some ⟨g, 0, none⟩)) rfl (by kernel_rfl) (by kernel_rfl) (by kernel_rfl) (fun _ _ _ h => h) (Or.inl ⟨by rfl, fun w hSw => by go_simp⟩) hS ?_
    simp only [Act.put, List.getElem_toArray, List.getElem_cons_succ, List.getElem_cons_zero, List.setIfInBounds_toArray, List.set_cons_zero, List.set_cons_succ]
    refine wpAnyH_take (i := 3) (v := .pointer (some ⟨g, 0, none⟩)) rfl (by kernel_rfl) (by kernel_rfl) (by kernel_rfl) (fun _ _ _ h => h) (Or.inl ⟨by rfl, fun w hSw => by go_simp⟩) hS ?_
    simp only [Act.put, List.getElem_toArray, List.getElem_cons_succ, List.getElem_cons_zero, List.setIfInBounds_toArray, List.set_cons_zero, List.set_cons_succ]
    refine wpAnyH_take (i := 4) (v := .pointer (some ⟨g, 1, none⟩)) rfl (by kernel_rfl) (by kernel_rfl) (by kernel_rfl) (fun _ _ _ h => h) (Or.inl ⟨by rfl, fun w hSw => by go_simp⟩) hS ?_
    simp only [Act.put, List.getElem_toArray, List.getElem_cons_succ, List.getElem_cons_zero, List.setIfInBounds_toArray, List.set_cons_zero, List.set_cons_succ]
    refine wpAnyH_take (i := 5) (v := .int .i64 o) rfl (by kernel_rfl) (by kernel_rfl) (by kernel_rfl) (fun _ _ _ h => h) (Or.inl ⟨by rfl, fun w hSw => by obtain ⟨z, hz⟩ := hSw; have y1 := cell_row hz 1; have y3 := cell_row hz 3; simp only [List.getElem?_toArray, List.getElem?_cons_succ, List.getElem?_cons_zero] at y1 y3; go_simp⟩) hS ?_
    simp only [Act.put, List.getElem_toArray, List.getElem_cons_succ, List.getElem_cons_zero, List.setIfInBounds_toArray, List.set_cons_zero, List.set_cons_succ]
    refine wpAnyH_take (i := 6) (v := .pointer (some ⟨g, 0, none⟩)) rfl (by kernel_rfl) (by kernel_rfl) (by kernel_rfl) (fun _ _ _ h => h) (Or.inl ⟨by rfl, fun w hSw => by go_simp⟩) hS ?_
    simp only [Act.put, List.getElem_toArray, List.getElem_cons_succ, List.getElem_cons_zero, List.setIfInBounds_toArray, List.set_cons_zero, List.set_cons_succ]
    refine wpAnyH_take (i := 7) (v := .pointer (some ⟨g, 0, none⟩)) rfl (by kernel_rfl) (by kernel_rfl) (by kernel_rfl) (fun _ _ _ h => h) (Or.inl ⟨by rfl, fun w hSw => by go_simp⟩) hS ?_
    simp only [Act.put, List.getElem_toArray, List.getElem_cons_succ, List.getElem_cons_zero, List.setIfInBounds_toArray, List.set_cons_zero, List.set_cons_succ]
    refine wpAnyH_take (i := 8) (v := .pointer (some ⟨g, 3, none⟩)) rfl (by kernel_rfl) (by kernel_rfl) (by kernel_rfl) (fun _ _ _ h => h) (Or.inl ⟨by rfl, fun w hSw => by go_simp⟩) hS ?_
    simp only [Act.put, List.getElem_toArray, List.getElem_cons_succ, List.getElem_cons_zero, List.setIfInBounds_toArray, List.set_cons_zero, List.set_cons_succ]
    refine wpAnyH_take (i := 9) (v := .int .i64 pp) rfl (by kernel_rfl) (by kernel_rfl) (by kernel_rfl) (fun _ _ _ h => h) (Or.inl ⟨by rfl, fun w hSw => by obtain ⟨z, hz⟩ := hSw; have y1 := cell_row hz 1; have y3 := cell_row hz 3; simp only [List.getElem?_toArray, List.getElem?_cons_succ, List.getElem?_cons_zero] at y1 y3; go_simp⟩) hS ?_
    simp only [Act.put, List.getElem_toArray, List.getElem_cons_succ, List.getElem_cons_zero, List.setIfInBounds_toArray, List.set_cons_zero, List.set_cons_succ]
    refine wpAnyH_ready (rs := [10]) (by kernel_rfl) (by simp) ?_
    refine AllReadyH.cons rfl (fun K hK => ?_) AllReadyH.nil
    go_simp
    refine (KE.out _ HR3d.out).mono ?_
    rintro e w4 ⟨hst4, hop4⟩
    subst hop4
    have hb4 : w4.heap[g]? = some (.cells (subC ⟨k, o, sw, pp, hh, [], R0⟩ none 0 none 0 none 0) 26 (0, 0)) := by rw [hst4.block _ (lt_of_block HB3.out) (fun e => hxg (Eq.symm e))]; exact HB3.out
    have HS4 : Hid (Stays (XG x g) w w4) := HS3d.out.s2 hst4
    obtain ⟨x0, x1, x2, x3, x4, x5, x6, x7, x8, x9⟩ := sub_cells hb4
    have fx5 := row_frozen hb4 5
    refine hK.out _ _ ⟨_, hb4⟩ (fun hS4 => ?_)
    clear hK K KE hst4
    try simp only [Act.put, List.getElem_toArray, List.getElem_cons_succ, List.getElem_cons_zero, List.setIfInBounds_toArray, List.set_cons_zero, List.set_cons_succ]
    refine wpAnyH_take (i := 11) (v := .tuple #[.slice none 0 0, .bool false]) rfl (by kernel_rfl) (by kernel_rfl) (by kernel_rfl) (fun _ _ _ h => h) (Or.inl ⟨by rfl, fun w hSw => by go_simp⟩) hS4 ?_
    simp only [Act.put, List.getElem_toArray, List.getElem_cons_succ, List.getElem_cons_zero, List.setIfInBounds_toArray, List.set_cons_zero, List.set_cons_succ]
    refine wpAnyH_take (i := 12) (v := .slice none 0 0) rfl (by kernel_rfl) (by kernel_rfl) (by kernel_rfl) (fun _ _ _ h => h) (Or.inl ⟨by rfl, fun w hSw => by go_simp⟩) hS4 ?_
    simp only [Act.put, List.getElem_toArray, List.getElem_cons_succ, List.getElem_cons_zero, List.setIfInBounds_toArray, List.set_cons_zero, List.set_cons_succ]
    refine wpAnyH_take (i := 13) (v := .bool false) rfl (by kernel_rfl) (by kernel_rfl) (by kernel_rfl) (fun _ _ _ h => h) (Or.inl ⟨by rfl, fun w hSw => by go_simp⟩) hS4 ?_
    simp only [Act.put, List.getElem_toArray, List.getElem_cons_succ, List.getElem_cons_zero, List.setIfInBounds_toArray, List.set_cons_zero, List.set_cons_succ]
    refine wpAnyH_take (i := 14) (v := .pointer (some ⟨g, 0, none⟩)) rfl (by kernel_rfl) (by kernel_rfl) (by kernel_rfl) (fun _ _ _ h => h) (Or.inl ⟨by rfl, fun w hSw => by go_simp⟩) hS4 ?_
    simp only [Act.put, List.getElem_toArray, List.getElem_cons_succ, List.getElem_cons_zero, List.setIfInBounds_toArray, List.set_cons_zero, List.set_cons_succ]
    refine wpAnyH_take (i := 15) (v := .pointer (some ⟨g, 5, none⟩)) rfl (by kernel_rfl) (by kernel_rfl) (by kernel_rfl) (fun _ _ _ h => h) (Or.inl ⟨by rfl, fun w hSw => by go_simp⟩) hS4 ?_
    simp only [Act.put, List.getElem_toArray, List.getElem_cons_succ, List.getElem_cons_zero, List.setIfInBounds_toArray, List.set_cons_zero, List.set_cons_succ]
    refine wpAnyH_ready (rs := [16]) (by kernel_rfl) (by simp) ?_
    refine AllReadyH.cons rfl (fun K hK => ?_) AllReadyH.nil
    go_simp
    generalize hwf : World.setCell _ _ _ = wf at *
    have hf5 : ∃ z, wf.heap[g]? = some (.cells #[.int .i64 k, .int .i64 o, .int .i64 sw, .int .i64 pp, .int .i64 hh, z, .int .i64 0, .int .i64 0, .slice none 0 0, .slice none 0 0] 26 (0, 0)) := ⟨.slice none 0 0, by
      rw [← hwf, block_setCell _ _ _ _ _ _ hb4]
      simp only [List.setIfInBounds_toArray, List.set_cons_zero, List.set_cons_succ]
      try rfl⟩
    have HSF : Hid (Stays (XG x g) w wf) := by rw [← hwf]; exact HS4.out.setCell _ _ (Or.inl (Or.inr rfl))
    refine hK.out _ _ hf5 (fun hS5 => ?_)
    clear hK K hwf hf5 x0 x1 x2 x3 x4 x5 x6 x7 x8 x9 fx5 hb4
    try simp only [Act.put, List.getElem_toArray, List.getElem_cons_succ, List.getElem_cons_zero, List.setIfInBounds_toArray, List.set_cons_zero, List.set_cons_succ]
    refine wpAnyH_take (i := 17) (v := .bool false) rfl (by kernel_rfl) (by kernel_rfl) (by kernel_rfl) (fun _ _ _ h => h) (Or.inl ⟨by rfl, fun w hSw => by go_simp⟩) hS5 ?_
    simp only [Act.put, List.getElem_toArray, List.getElem_cons_succ, List.getElem_cons_zero, List.setIfInBounds_toArray, List.set_cons_zero, List.set_cons_succ]
    refine wpAnyH_done (by kernel_rfl) ?_ _
    go_wp2_with fail
    go_ret
    exact ⟨HSF.out, OPost.none_ HN.out rfl⟩
  | some r =>
    obtain ⟨C, a1⟩ := r
    have HN : Hid (coefN s a o = some (pp, hh, C, a1)) := by show _ = _; rw [HCN.out, hR]
    have KE : Hid (∀ wx, Rd wx x s a5 → Calls Try.prog 44 #[.pointer (some ⟨x, 0, none⟩), .int .i64 o, .int .i64 pp] wx fun e w' => Stays (only x) wx w' ∧ ∃ la lc, e = .returned (.tuple #[.slice la C.length lc, .bool true]) ∧ RowS wx.heap.size la lc C w' ∧ Rd w' x s a1) := fun wx hh => (ke0 wx hh).mono fun e w' h => by
      obtain ⟨h1, h2⟩ := h
      rw [hR] at h2
      exact ⟨h1, h2⟩
    clear ke0 hR HCN hpp
    go_enter Try.func46, Try.ntmps46
    go_wp2_with fail
    refine kn.mono ?_
    rintro e w1 ⟨rfl, h2, h3⟩
    have HS1 : Hid (Stays (XG x g) w w1) := only_s2 h3
    have HB1 : Hid (w1.heap[g]? = some (.cells (subC ⟨k, o, sw, 0, 0, [], R0⟩ none 0 none 0 none 0) 26 (0, 0))) := by show _ = _; rw [h3.block _ hgw (fun e => hxg (Eq.symm e))]; exact HBX.out
    have HR1 : Hid (Rd w1 x s (getA s a 4)) := h2
    clear kn h2 h3 HBX
    have kn2 := KN5.out w1 HR1.out
    go_wp2_with fail
    refine kn2.mono ?_
    rintro e w2 ⟨rfl, h2, h3⟩
    have HS2 : Hid (Stays (XG x g) w w2) := HS1.out.s2 h3
    have HB2 : Hid (w2.heap[g]? = some (.cells (subC ⟨k, o, sw, 0, 0, [], R0⟩ none 0 none 0 none 0) 26 (0, 0))) := by show _ = _; rw [h3.block _ (lt_of_block HB1.out) (fun e => hxg (Eq.symm e))]; exact HB1.out
    have HR2 : Hid (Rd w2 x s a5) := h2
    clear kn2 h2 h3 HS1 HB1 HR1 KN5

    obtain ⟨x0, x1, x2, x3, x4, x5, x6, x7, x8, x9⟩ := sub_cells HB2.out
    have fx3 := row_frozen HB2.out 3
    have fx4 := row_frozen HB2.out 4
    go_upto_region 8 with fail
    generalize hwm : World.setCell _ _ _ = w3 at *
    have HB3 : Hid (w3.heap[g]? = some (.cells (subC ⟨k, o, sw, pp, hh, [], R0⟩ none 0 none 0 none 0) 26 (0, 0))) := by
      show _ = _
      rw [← hwm, block_setCell _ _ _ _ _ _ (block_setCell _ _ _ _ _ _ HB2.out)]
      simp only [List.setIfInBounds_toArray, List.set_cons_zero, List.set_cons_succ]
    have HS3d : Hid (Stays (XG x g) w w3.drew) := by
      have h0 : Stays (XG x g) w w3 := by rw [← hwm]; exact (HS2.out.setCell _ _ (Or.inl (Or.inr rfl))).setCell _ _ (Or.inl (Or.inr rfl))
      exact h0.drew
    have HR3d : Hid (Rd w3.drew x s a5) := by
      have h0 : Rd w3 x s a5 := by rw [← hwm]; exact (HR2.out.other _ _ (by show g ≠ x; exact fun e => hxg e.symm)).other _ _ (by show g ≠ x; exact fun e => hxg e.symm)
      exact h0
    clear hwm HB2 HS2 HR2 x0 x1 x2 x3 x4 x5 x6 x7 x8 x9 fx3 fx4
    refine wp_region_held_drew (S := fun wx => ∃ z, wx.heap[g]? = some (.cells #[.int .i64 k, .int .i64 o, .int .i64 sw, .int .i64 pp, .int .i64 hh, z, .int .i64 0, .int .i64 0, .slice none 0 0, .slice none 0 0] 26 (0, 0))) (by kernel_rfl) ⟨_, HB3.out⟩ (fun hS => ?_)
    refine wpAnyH_take (i := 0) (v := .pointer (some ⟨g, 0, none⟩)) rfl (by kernel_rfl) (by kernel_rfl) (by kernel_rfl) (fun _ _ _ h => h) (Or.inl ⟨by rfl, fun w hSw => by go_simp⟩) hS ?_
    simp only [Act.put, List.getElem_toArray, List.getElem_cons_succ, List.getElem_cons_zero, List.setIfInBounds_toArray, List.set_cons_zero, List.set_cons_succ]
    refine wpAnyH_take (i := 1) (v := .pointer (some ⟨x, 0, none⟩)) rfl (by kernel_rfl) (by kernel_rfl) (by kernel_rfl) (fun _ _ _ h => h) (Or.inl ⟨by rfl, fun w hSw => by go_simp⟩) hS ?_
    simp only [Act.put, List.getElem_toArray, List.getElem_cons_succ, List.getElem_cons_zero, List.setIfInBounds_toArray, List.set_cons_zero, List.set_cons_succ]
    refine wpAnyH_take (i := 2) (v := .pointer (some ⟨g, 0, none⟩)) rfl (by kernel_rfl) (by kernel_rfl) (by kernel_rfl) (fun _ _ _ h => h) (Or.inl ⟨by rfl, fun w hSw => by go_simp⟩) hS ?_
    simp only [Act.put, List.getElem_toArray, List.getElem_cons_succ, List.getElem_cons_zero, List.setIfInBounds_toArray, List.set_cons_zero, List.set_cons_succ]
    refine wpAnyH_take (i := 3) (v := .pointer (some ⟨g, 0, none⟩)) rfl (by kernel_rfl) (by kernel_rfl) (by kernel_rfl) (fun _ _ _ h => h) (Or.inl ⟨by rfl, fun w hSw => by go_simp⟩) hS ?_
    simp only [Act.put, List.getElem_toArray, List.getElem_cons_succ, List.getElem_cons_zero, List.setIfInBounds_toArray, List.set_cons_zero, List.set_cons_succ]
    refine wpAnyH_take (i := 4) (v := .pointer (some ⟨g, 1, none⟩)) rfl (by kernel_rfl) (by kernel_rfl) (by kernel_rfl) (fun _ _ _ h => h) (Or.inl ⟨by rfl, fun w hSw => by go_simp⟩) hS ?_
    simp only [Act.put, List.getElem_toArray, List.getElem_cons_succ, List.getElem_cons_zero, List.setIfInBounds_toArray, List.set_cons_zero, List.set_cons_succ]
    refine wpAnyH_take (i := 5) (v := .int .i64 o) rfl (by kernel_rfl) (by kernel_rfl) (by kernel_rfl) (fun _ _ _ h => h) (Or.inl ⟨by rfl, fun w hSw => by obtain ⟨z, hz⟩ := hSw; have y1 := cell_row hz 1; have y3 := cell_row hz 3; simp only [List.getElem?_toArray, List.getElem?_cons_succ, List.getElem?_cons_zero] at y1 y3; go_simp⟩) hS ?_
    simp only [Act.put, List.getElem_toArray, List.getElem_cons_succ, List.getElem_cons_zero, List.setIfInBounds_toArray, List.set_cons_zero, List.set_cons_succ]
    refine wpAnyH_take (i := 6) (v := .pointer (some ⟨g, 0, none⟩)) rfl (by kernel_rfl) (by kernel_rfl) (by kernel_rfl) (fun _ _ _ h => h) (Or.inl ⟨by rfl, fun w hSw => by go_simp⟩) hS ?_
    simp only [Act.put, List.getElem_toArray, List.getElem_cons_succ, List.getElem_cons_zero, List.setIfInBounds_toArray, List.set_cons_zero, List.set_cons_succ]
    refine wpAnyH_take (i := 7) (v := .pointer (some ⟨g, 0, none⟩)) rfl (by kernel_rfl) (by kernel_rfl) (by kernel_rfl) (fun _ _ _ h => h) (Or.inl ⟨by rfl, fun w hSw => by go_simp⟩) hS ?_
    simp only [Act.put, List.getElem_toArray, List.getElem_cons_succ, List.getElem_cons_zero, List.setIfInBounds_toArray, List.set_cons_zero, List.set_cons_succ]
    refine wpAnyH_take (i := 8) (v := .pointer (some ⟨g, 3, none⟩)) rfl (by kernel_rfl) (by kernel_rfl) (by kernel_rfl) (fun _ _ _ h => h) (Or.inl ⟨by rfl, fun w hSw => by go_simp⟩) hS ?_
    simp only [Act.put, List.getElem_toArray, List.getElem_cons_succ, List.getElem_cons_zero, List.setIfInBounds_toArray, List.set_cons_zero, List.set_cons_succ]
    refine wpAnyH_take (i := 9) (v := .int .i64 pp) rfl (by kernel_rfl) (by kernel_rfl) (by kernel_rfl) (fun _ _ _ h => h) (Or.inl ⟨by rfl, fun w hSw => by obtain ⟨z, hz⟩ := hSw; have y1 := cell_row hz 1; have y3 := cell_row hz 3; simp only [List.getElem?_toArray, List.getElem?_cons_succ, List.getElem?_cons_zero] at y1 y3; go_simp⟩) hS ?_
    simp only [Act.put, List.getElem_toArray, List.getElem_cons_succ, List.getElem_cons_zero, List.setIfInBounds_toArray, List.set_cons_zero, List.set_cons_succ]
    refine wpAnyH_ready (rs := [10]) (by kernel_rfl) (by simp) ?_
    refine AllReadyH.cons rfl (fun K hK => ?_) AllReadyH.nil
    go_simp
    refine (KE.out _ HR3d.out).mono ?_
    rintro e w4 ⟨hst4, hop4⟩
    obtain ⟨la, lc, rfl, hrow4, hrd4⟩ := hop4
    have HSZ : w.heap.size ≤ w3.drew.heap.size := HS3d.out.size
    have hb4 : w4.heap[g]? = some (.cells (subC ⟨k, o, sw, pp, hh, [], R0⟩ none 0 none 0 none 0) 26 (0, 0)) := by rw [hst4.block _ (lt_of_block HB3.out) (fun e => hxg (Eq.symm e))]; exact HB3.out
    have HS4 : Hid (Stays (XG x g) w w4) := HS3d.out.s2 hst4
    obtain ⟨x0, x1, x2, x3, x4, x5, x6, x7, x8, x9⟩ := sub_cells hb4
    have fx5 := row_frozen hb4 5
    refine hK.out _ _ ⟨_, hb4⟩ (fun hS4 => ?_)
    clear hK K KE hst4
    try simp only [Act.put, List.getElem_toArray, List.getElem_cons_succ, List.getElem_cons_zero, List.setIfInBounds_toArray, List.set_cons_zero, List.set_cons_succ]
    refine wpAnyH_take (i := 11) (v := .tuple #[.slice la C.length lc, .bool true]) rfl (by kernel_rfl) (by kernel_rfl) (by kernel_rfl) (fun _ _ _ h => h) (Or.inl ⟨by rfl, fun w hSw => by go_simp⟩) hS4 ?_
    simp only [Act.put, List.getElem_toArray, List.getElem_cons_succ, List.getElem_cons_zero, List.setIfInBounds_toArray, List.set_cons_zero, List.set_cons_succ]
    refine wpAnyH_take (i := 12) (v := .slice la C.length lc) rfl (by kernel_rfl) (by kernel_rfl) (by kernel_rfl) (fun _ _ _ h => h) (Or.inl ⟨by rfl, fun w hSw => by go_simp⟩) hS4 ?_
    simp only [Act.put, List.getElem_toArray, List.getElem_cons_succ, List.getElem_cons_zero, List.setIfInBounds_toArray, List.set_cons_zero, List.set_cons_succ]
    refine wpAnyH_take (i := 13) (v := .bool true) rfl (by kernel_rfl) (by kernel_rfl) (by kernel_rfl) (fun _ _ _ h => h) (Or.inl ⟨by rfl, fun w hSw => by go_simp⟩) hS4 ?_
    simp only [Act.put, List.getElem_toArray, List.getElem_cons_succ, List.getElem_cons_zero, List.setIfInBounds_toArray, List.set_cons_zero, List.set_cons_succ]
    refine wpAnyH_take (i := 14) (v := .pointer (some ⟨g, 0, none⟩)) rfl (by kernel_rfl) (by kernel_rfl) (by kernel_rfl) (fun _ _ _ h => h) (Or.inl ⟨by rfl, fun w hSw => by go_simp⟩) hS4 ?_
    simp only [Act.put, List.getElem_toArray, List.getElem_cons_succ, List.getElem_cons_zero, List.setIfInBounds_toArray, List.set_cons_zero, List.set_cons_succ]
    refine wpAnyH_take (i := 15) (v := .pointer (some ⟨g, 5, none⟩)) rfl (by kernel_rfl) (by kernel_rfl) (by kernel_rfl) (fun _ _ _ h => h) (Or.inl ⟨by rfl, fun w hSw => by go_simp⟩) hS4 ?_
    simp only [Act.put, List.getElem_toArray, List.getElem_cons_succ, List.getElem_cons_zero, List.setIfInBounds_toArray, List.set_cons_zero, List.set_cons_succ]
    refine wpAnyH_ready (rs := [16]) (by kernel_rfl) (by simp) ?_
    refine AllReadyH.cons rfl (fun K hK => ?_) AllReadyH.nil
    go_simp
    generalize hwf : World.setCell _ _ _ = wf at *
    have hff : wf.heap[g]? = some (.cells (subC ⟨k, o, sw, pp, hh, C, R0⟩ la lc none 0 none 0) 26 (0, 0)) := by
      rw [← hwf, block_setCell _ _ _ _ _ _ hb4]
      simp only [List.setIfInBounds_toArray, List.set_cons_zero, List.set_cons_succ]
    have HSF : Hid (Stays (XG x g) w wf) := by rw [← hwf]; exact HS4.out.setCell _ _ (Or.inl (Or.inr rfl))
    have HRF : Hid (Rd wf x s a1) := by
      show Rd _ _ _ _
      rw [← hwf]; exact hrd4.other _ _ (by show g ≠ x; exact fun e => hxg e.symm)
    have HRW : Hid (RowS w.heap.size la lc C wf) := (hrow4.keep (fun j hj _ => by rw [← hwf]; exact Below.heap_setCell _ _ _ _ (by show j ≠ g; omega))).mono HSZ
    have HFF : Hid (wf.heap[g]? = some (.cells (subC ⟨k, o, sw, pp, hh, C, R0⟩ la lc none 0 none 0) 26 (0, 0))) := hff
    refine hK.out _ _ ⟨_, hff⟩ (fun hS5 => ?_)
    clear hK K hwf hff x0 x1 x2 x3 x4 x5 x6 x7 x8 x9 fx5 hb4 hrow4 hrd4
    try simp only [Act.put, List.getElem_toArray, List.getElem_cons_succ, List.getElem_cons_zero, List.setIfInBounds_toArray, List.set_cons_zero, List.set_cons_succ]
    refine wpAnyH_take (i := 17) (v := .bool true) rfl (by kernel_rfl) (by kernel_rfl) (by kernel_rfl) (fun _ _ _ h => h) (Or.inl ⟨by rfl, fun w hSw => by go_simp⟩) hS5 ?_
    simp only [Act.put, List.getElem_toArray, List.getElem_cons_succ, List.getElem_cons_zero, List.setIfInBounds_toArray, List.set_cons_zero, List.set_cons_succ]
    refine wpAnyH_done (by kernel_rfl) ?_ _
    go_wp2_with fail
    go_ret
    exact ⟨HSF.out, OPost.some_ HN.out ⟨rfl, la, lc, HFF.out, HRW.out, HRF.out⟩⟩

end Go.Proofs.Ytkhdkmdiblomhaa
