/- Own text: the walk of the program's readHead, where it fails. -/
import Derived.Test.YtkhdkmdiblomhaaG11x
namespace Go.Proofs.Ytkhdkmdiblomhaa
open Go.RowKit
set_option linter.unusedSimpArgs false
set_option linter.unusedVariables false

theorem info_Rice : (Try.prog.info? 24).map (·.size) = some 4 := by kernel_rfl
theorem results_three {fn : Func} {p p2 t : Tmp} {ty ty2 : TypeId} (h : fn.results = #[.cell p ty, .cell p2 ty2, .tmp t]) (tmps : Array Value) (P : Program) (w : World) :
    (results fn tmps).run P w = ((asAddr (tmps.getD p undef)).run P w).andThen fun a w₁ => ((loadVar ty a).run P w₁).andThen fun x w₂ => ((asAddr (tmps.getD p2 undef)).run P w₂).andThen fun a2 w₃ => ((loadVar ty2 a2).run P w₃).andThen fun x2 w₄ => .ok (.tuple #[x, x2, tmps.getD t undef]) w₄ := by
  simp only [results, h]
  simp [Sem.run_bind, Result.andThen]
/-- boxes for readHead's answers. -/
structure HS0 (w : World) (wx : World) : Prop where
  b0 : wx.heap[w.heap.size]? = some (.cells #[.int .i64 0, .int .i64 0, .slice none 0 0, .slice none 0 0] 24 (0, 0))
  b1 : wx.heap[w.heap.size + 1]? = some (.cells #[.int .i64 0, .int .i64 0, .int .i64 0] 94 (0, 0))
section
variable {w wx w' : World}
theorem HS0.new (w : World) : HS0 w ((w.alloc (.cells #[.int .i64 0, .int .i64 0, .slice none 0 0, .slice none 0 0] 24)).alloc (.cells #[.int .i64 0, .int .i64 0, .int .i64 0] 94)) := by
  refine ⟨heap_two _ _ _, ?_⟩
  have hh := heap_alloc_new (w.alloc (.cells #[.int .i64 0, .int .i64 0, .slice none 0 0, .slice none 0 0] 24)) (.cells #[.int .i64 0, .int .i64 0, .int .i64 0] 94)
  rw [show (w.alloc (.cells #[.int .i64 0, .int .i64 0, .slice none 0 0, .slice none 0 0] 24)).heap.size = w.heap.size + 1 from by simp] at hh
  exact hh
theorem HS0.stays (h : HS0 w wx) {S : Nat → Prop} (hS : Stays S wx w') (h0 : ¬ S w.heap.size) (h1 : ¬ S (w.heap.size + 1)) : HS0 w w' :=
  ⟨by rw [hS.block _ (lt_of_block h.b0) h0]; exact h.b0, by rw [hS.block _ (lt_of_block h.b1) h1]; exact h.b1⟩
theorem HS0.below (h : HS0 w wx) (hb : Below wx.heap.size wx w') : HS0 w w' := h.stays (Stays.of_below hb (fun _ => False)) (fun h => h) (fun h => h)
end
theorem block_set2 (w : World) (p i k : Nat) (cs : Array Value) (t : TypeId) (u : Value) (h : w.heap[k]? = some (.cells cs t (0, 0))) (hk : k ≠ p) : (w.setCell ⟨p, i, none⟩ u).heap[k]? = some (.cells cs t (0, 0)) := by
  rw [Below.heap_setCell w _ _ k hk]; exact h
/-- what readHead has when it fails: both boxes are laid empty again. -/
theorem HS0.again {w wx : World} (h : HS0 w wx) : HS0 w (((((((wx.setCell ⟨w.heap.size, 0, none⟩ (.int .i64 0)).setCell ⟨w.heap.size, 1, none⟩ (.int .i64 0)).setCell ⟨w.heap.size, 2, none⟩ (.slice none 0 0)).setCell ⟨w.heap.size, 3, none⟩ (.slice none 0 0)).setCell ⟨w.heap.size + 1, 0, none⟩ (.int .i64 0)).setCell ⟨w.heap.size + 1, 1, none⟩ (.int .i64 0)).setCell ⟨w.heap.size + 1, 2, none⟩ (.int .i64 0)) := by
  refine ⟨?_, ?_⟩
  · refine block_set2 _ _ _ _ _ _ _ (block_set2 _ _ _ _ _ _ _ (block_set2 _ _ _ _ _ _ _ ?_ (by omega)) (by omega)) (by omega)
    rw [block_setCell _ _ _ _ _ _ (block_setCell _ _ _ _ _ _ (block_setCell _ _ _ _ _ _ (block_setCell _ _ _ _ _ _ h.b0)))]
    rfl
  · have h1 : ((((wx.setCell ⟨w.heap.size, 0, none⟩ (.int .i64 0)).setCell ⟨w.heap.size, 1, none⟩ (.int .i64 0)).setCell ⟨w.heap.size, 2, none⟩ (.slice none 0 0)).setCell ⟨w.heap.size, 3, none⟩ (.slice none 0 0)).heap[w.heap.size + 1]? = some (.cells #[.int .i64 0, .int .i64 0, .int .i64 0] 94 (0, 0)) :=
      block_set2 _ _ _ _ _ _ _ (block_set2 _ _ _ _ _ _ _ (block_set2 _ _ _ _ _ _ _ (block_set2 _ _ _ _ _ _ _ h.b1 (by omega)) (by omega)) (by omega)) (by omega)
    rw [block_setCell _ _ _ _ _ _ (block_setCell _ _ _ _ _ _ (block_setCell _ _ _ _ _ _ h1))]
    rfl
theorem stays_again {S : Nat → Prop} {w wx : World} (n : Nat) (hn : w.heap.size ≤ n) (h : Stays S w wx) : Stays S w (((((((wx.setCell ⟨n, 0, none⟩ (.int .i64 0)).setCell ⟨n, 1, none⟩ (.int .i64 0)).setCell ⟨n, 2, none⟩ (.slice none 0 0)).setCell ⟨n, 3, none⟩ (.slice none 0 0)).setCell ⟨n + 1, 0, none⟩ (.int .i64 0)).setCell ⟨n + 1, 1, none⟩ (.int .i64 0)).setCell ⟨n + 1, 2, none⟩ (.int .i64 0)) :=
  ((((((h.setCell _ _ (Or.inr hn)).setCell _ _ (Or.inr hn)).setCell _ _ (Or.inr hn)).setCell _ _ (Or.inr hn)).setCell _ _ (Or.inr (Nat.le_succ_of_le hn))).setCell _ _ (Or.inr (Nat.le_succ_of_le hn))).setCell _ _ (Or.inr (Nat.le_succ_of_le hn))
abbrev zRice : Value := .agg #[.int .i64 0, .int .i64 0, .slice none 0 0, .slice none 0 0]
set_option maxRecDepth 20000 in
set_option maxHeartbeats 3200000 in
theorem rhead_no (q : Nat) (s : ByteArray) (hs : s.size ≤ 1000000000000000000) (a : Nat) (ha : a ≤ 8 * s.size) (b r : Int) (w : World) (h : Rd w q s a) (hn : rdTop s a b r = none) :
    Calls Try.prog 85 #[.pointer (some ⟨q, 0, none⟩), .int .i64 b, .int .i64 r] w fun en w' => en = .returned (.tuple #[zRice, cutV 0 0 0, .bool false]) ∧ Stays (only q) w w' := by
  have HN0 : Hid (HS0 w ((w.alloc (.cells #[.int .i64 0, .int .i64 0, .slice none 0 0, .slice none 0 0] 24)).alloc (.cells #[.int .i64 0, .int .i64 0, .int .i64 0] 94))) := HS0.new w
  have HB0 : Hid (Below w.heap.size w ((w.alloc (.cells #[.int .i64 0, .int .i64 0, .slice none 0 0, .slice none 0 0] 24)).alloc (.cells #[.int .i64 0, .int .i64 0, .int .i64 0] 94))) := ((Below.refl _ _).alloc (Nat.le_refl _) _).alloc (by simp) _
  have hq := h.lt
  have HRd : Hid (Rd ((w.alloc (.cells #[.int .i64 0, .int .i64 0, .slice none 0 0, .slice none 0 0] 24)).alloc (.cells #[.int .i64 0, .int .i64 0, .int .i64 0] 94)) q s a) := h.below HB0.out
  have hle2 := getA_le s a 2 ha
  have hv2 := getV_2 s a
  have hv4 := getV_4 s (getA s a 2)
  have k2 := number_spec q s hs a ha 2 (by omega) (by omega) _ HRd.out
  clear h
  by_cases c1 : getE s a 2 = 0
  case neg =>
    have hb : (getE s a 2 == 0) = false := by rw [beq_eq_false_iff_ne]; exact c1
    rw [hb] at k2
    clear hn c1 hb
    generalize getV s a 2 = v2 at *
    go_enter Try.func85, Try.ntmps85
    go_wp2_with fail
    refine k2.mono ?_
    rintro e w2 ⟨rfl, h2, h3⟩
    have HH : Hid (HS0 w w2) := HN0.out.stays h3 (fun e => by unfold only at e; omega) (fun e => by unfold only at e; omega)
    have HS : Hid (Stays (only q) w w2) := (Stays.of_below HB0.out _).trans h3 (fun _ _ h => h)
    have HR : Hid (Rd w2 q s (getA s a 2)) := h2
    clear k2 h2 h3 HN0 HB0 HRd
    have hb0 := HH.out.b0
    have hb1 := HH.out.b1
    have u0 : w2.cell? ⟨w.heap.size, 0, none⟩ = some (.int .i64 0) := by rw [cell_of_row _ _ _ _ _ _ hb0]; rfl
    have fu0 : w2.frozen? ⟨w.heap.size, 0, none⟩ = false := by simp [World.frozen?, hb0]
    have u1 : w2.cell? ⟨w.heap.size, 1, none⟩ = some (.int .i64 0) := by rw [cell_of_row _ _ _ _ _ _ hb0]; rfl
    have fu1 : w2.frozen? ⟨w.heap.size, 1, none⟩ = false := by simp [World.frozen?, hb0]
    have u2 : w2.cell? ⟨w.heap.size, 2, none⟩ = some (.slice none 0 0) := by rw [cell_of_row _ _ _ _ _ _ hb0]; rfl
    have fu2 : w2.frozen? ⟨w.heap.size, 2, none⟩ = false := by simp [World.frozen?, hb0]
    have u3 : w2.cell? ⟨w.heap.size, 3, none⟩ = some (.slice none 0 0) := by rw [cell_of_row _ _ _ _ _ _ hb0]; rfl
    have fu3 : w2.frozen? ⟨w.heap.size, 3, none⟩ = false := by simp [World.frozen?, hb0]
    have v0 : w2.cell? ⟨w.heap.size + 1, 0, none⟩ = some (.int .i64 0) := by rw [cell_of_row _ _ _ _ _ _ hb1]; rfl
    have fv0 : w2.frozen? ⟨w.heap.size + 1, 0, none⟩ = false := by simp [World.frozen?, hb1]
    have v1 : w2.cell? ⟨w.heap.size + 1, 1, none⟩ = some (.int .i64 0) := by rw [cell_of_row _ _ _ _ _ _ hb1]; rfl
    have fv1 : w2.frozen? ⟨w.heap.size + 1, 1, none⟩ = false := by simp [World.frozen?, hb1]
    have v2 : w2.cell? ⟨w.heap.size + 1, 2, none⟩ = some (.int .i64 0) := by rw [cell_of_row _ _ _ _ _ _ hb1]; rfl
    have fv2 : w2.frozen? ⟨w.heap.size + 1, 2, none⟩ = false := by simp [World.frozen?, hb1]
    clear hb0 hb1
    go_wp2_with fail
    generalize hwf : World.setCell _ _ _ = wf
    have hH : HS0 w wf := by rw [← hwf]; exact HH.out.again
    have hS : Stays (only q) w wf := by rw [← hwf]; exact stays_again _ (Nat.le_refl _) HS.out
    refine bodyPost_ret (v := .tuple #[zRice, cutV 0 0 0, .bool false]) ?_ rfl ⟨rfl, hS⟩
    rw [results_three rfl]
    have hl0 := run_loadVar_row (P := Try.prog) wf (w.heap.size) 24 24 #[.int .i64 0, .int .i64 0, .slice none 0 0, .slice none 0 0] (0, 0) _ hH.b0 Try.underlying24 rfl info_Rice
    have hl1 := run_loadVar_row (P := Try.prog) wf (w.heap.size + 1) 94 94 #[.int .i64 0, .int .i64 0, .int .i64 0] (0, 0) _ hH.b1 Try.underlying94 rfl info_cut
    simp [asAddr, Result.andThen, hl0, hl1]
  have hb : (getE s a 2 == 0) = true := by rw [c1]; rfl
  rw [hb] at k2
  by_cases c2 : getV s a 2 ≤ 1
  case neg =>
    clear hn c1 hb
    generalize getV s a 2 = v2 at *
    go_enter Try.func85, Try.ntmps85
    go_wp2_with fail
    refine k2.mono ?_
    rintro e w2 ⟨rfl, h2, h3⟩
    have HH : Hid (HS0 w w2) := HN0.out.stays h3 (fun e => by unfold only at e; omega) (fun e => by unfold only at e; omega)
    have HS : Hid (Stays (only q) w w2) := (Stays.of_below HB0.out _).trans h3 (fun _ _ h => h)
    have HR : Hid (Rd w2 q s (getA s a 2)) := h2
    clear k2 h2 h3 HN0 HB0 HRd
    have hb0 := HH.out.b0
    have hb1 := HH.out.b1
    have u0 : w2.cell? ⟨w.heap.size, 0, none⟩ = some (.int .i64 0) := by rw [cell_of_row _ _ _ _ _ _ hb0]; rfl
    have fu0 : w2.frozen? ⟨w.heap.size, 0, none⟩ = false := by simp [World.frozen?, hb0]
    have u1 : w2.cell? ⟨w.heap.size, 1, none⟩ = some (.int .i64 0) := by rw [cell_of_row _ _ _ _ _ _ hb0]; rfl
    have fu1 : w2.frozen? ⟨w.heap.size, 1, none⟩ = false := by simp [World.frozen?, hb0]
    have u2 : w2.cell? ⟨w.heap.size, 2, none⟩ = some (.slice none 0 0) := by rw [cell_of_row _ _ _ _ _ _ hb0]; rfl
    have fu2 : w2.frozen? ⟨w.heap.size, 2, none⟩ = false := by simp [World.frozen?, hb0]
    have u3 : w2.cell? ⟨w.heap.size, 3, none⟩ = some (.slice none 0 0) := by rw [cell_of_row _ _ _ _ _ _ hb0]; rfl
    have fu3 : w2.frozen? ⟨w.heap.size, 3, none⟩ = false := by simp [World.frozen?, hb0]
    have v0 : w2.cell? ⟨w.heap.size + 1, 0, none⟩ = some (.int .i64 0) := by rw [cell_of_row _ _ _ _ _ _ hb1]; rfl
    have fv0 : w2.frozen? ⟨w.heap.size + 1, 0, none⟩ = false := by simp [World.frozen?, hb1]
    have v1 : w2.cell? ⟨w.heap.size + 1, 1, none⟩ = some (.int .i64 0) := by rw [cell_of_row _ _ _ _ _ _ hb1]; rfl
    have fv1 : w2.frozen? ⟨w.heap.size + 1, 1, none⟩ = false := by simp [World.frozen?, hb1]
    have v2 : w2.cell? ⟨w.heap.size + 1, 2, none⟩ = some (.int .i64 0) := by rw [cell_of_row _ _ _ _ _ _ hb1]; rfl
    have fv2 : w2.frozen? ⟨w.heap.size + 1, 2, none⟩ = false := by simp [World.frozen?, hb1]
    clear hb0 hb1
    go_wp2_with fail
    generalize hwf : World.setCell _ _ _ = wf
    have hH : HS0 w wf := by rw [← hwf]; exact HH.out.again
    have hS : Stays (only q) w wf := by rw [← hwf]; exact stays_again _ (Nat.le_refl _) HS.out
    refine bodyPost_ret (v := .tuple #[zRice, cutV 0 0 0, .bool false]) ?_ rfl ⟨rfl, hS⟩
    rw [results_three rfl]
    have hl0 := run_loadVar_row (P := Try.prog) wf (w.heap.size) 24 24 #[.int .i64 0, .int .i64 0, .slice none 0 0, .slice none 0 0] (0, 0) _ hH.b0 Try.underlying24 rfl info_Rice
    have hl1 := run_loadVar_row (P := Try.prog) wf (w.heap.size + 1) 94 94 #[.int .i64 0, .int .i64 0, .int .i64 0] (0, 0) _ hH.b1 Try.underlying94 rfl info_cut
    simp [asAddr, Result.andThen, hl0, hl1]
  by_cases c3 : getE s (getA s a 2) 4 = 0
  case neg =>
    have hb4 : (getE s (getA s a 2) 4 == 0) = false := by rw [beq_eq_false_iff_ne]; exact c3
    clear hn c1 hb c3
    generalize getV s a 2 = v2 at *
    go_enter Try.func85, Try.ntmps85
    go_wp2_with fail
    refine k2.mono ?_
    rintro e w2 ⟨rfl, h2, h3⟩
    have HH : Hid (HS0 w w2) := HN0.out.stays h3 (fun e => by unfold only at e; omega) (fun e => by unfold only at e; omega)
    have HS : Hid (Stays (only q) w w2) := (Stays.of_below HB0.out _).trans h3 (fun _ _ h => h)
    have HR : Hid (Rd w2 q s (getA s a 2)) := h2
    clear k2 h2 h3 HN0 HB0 HRd
    have k4 := number_spec q s hs (getA s a 2) hle2 4 (by omega) (by omega) w2 HR.out
    rw [hb4] at k4
    generalize getV s (getA s a 2) 4 = v4 at *
    go_wp2_with fail
    refine k4.mono ?_
    rintro e w3 ⟨rfl, h2, h3⟩
    have HH3 : Hid (HS0 w w3) := HH.out.stays h3 (fun e => by unfold only at e; omega) (fun e => by unfold only at e; omega)
    have HS3 : Hid (Stays (only q) w w3) := HS.out.trans h3 (fun _ _ h => h)
    have HR3 : Hid (Rd w3 q s (getA s (getA s a 2) 4)) := h2
    clear k4 h2 h3 HH HS HR
    have hb0 := HH3.out.b0
    have hb1 := HH3.out.b1
    have u0 : w3.cell? ⟨w.heap.size, 0, none⟩ = some (.int .i64 0) := by rw [cell_of_row _ _ _ _ _ _ hb0]; rfl
    have fu0 : w3.frozen? ⟨w.heap.size, 0, none⟩ = false := by simp [World.frozen?, hb0]
    have u1 : w3.cell? ⟨w.heap.size, 1, none⟩ = some (.int .i64 0) := by rw [cell_of_row _ _ _ _ _ _ hb0]; rfl
    have fu1 : w3.frozen? ⟨w.heap.size, 1, none⟩ = false := by simp [World.frozen?, hb0]
    have u2 : w3.cell? ⟨w.heap.size, 2, none⟩ = some (.slice none 0 0) := by rw [cell_of_row _ _ _ _ _ _ hb0]; rfl
    have fu2 : w3.frozen? ⟨w.heap.size, 2, none⟩ = false := by simp [World.frozen?, hb0]
    have u3 : w3.cell? ⟨w.heap.size, 3, none⟩ = some (.slice none 0 0) := by rw [cell_of_row _ _ _ _ _ _ hb0]; rfl
    have fu3 : w3.frozen? ⟨w.heap.size, 3, none⟩ = false := by simp [World.frozen?, hb0]
    have v0 : w3.cell? ⟨w.heap.size + 1, 0, none⟩ = some (.int .i64 0) := by rw [cell_of_row _ _ _ _ _ _ hb1]; rfl
    have fv0 : w3.frozen? ⟨w.heap.size + 1, 0, none⟩ = false := by simp [World.frozen?, hb1]
    have v1 : w3.cell? ⟨w.heap.size + 1, 1, none⟩ = some (.int .i64 0) := by rw [cell_of_row _ _ _ _ _ _ hb1]; rfl
    have fv1 : w3.frozen? ⟨w.heap.size + 1, 1, none⟩ = false := by simp [World.frozen?, hb1]
    have v2 : w3.cell? ⟨w.heap.size + 1, 2, none⟩ = some (.int .i64 0) := by rw [cell_of_row _ _ _ _ _ _ hb1]; rfl
    have fv2 : w3.frozen? ⟨w.heap.size + 1, 2, none⟩ = false := by simp [World.frozen?, hb1]
    clear hb0 hb1
    go_wp2_with fail
    generalize hwf : World.setCell _ _ _ = wf
    have hH : HS0 w wf := by rw [← hwf]; exact HH3.out.again
    have hS : Stays (only q) w wf := by rw [← hwf]; exact stays_again _ (Nat.le_refl _) HS3.out
    refine bodyPost_ret (v := .tuple #[zRice, cutV 0 0 0, .bool false]) ?_ rfl ⟨rfl, hS⟩
    rw [results_three rfl]
    have hl0 := run_loadVar_row (P := Try.prog) wf (w.heap.size) 24 24 #[.int .i64 0, .int .i64 0, .slice none 0 0, .slice none 0 0] (0, 0) _ hH.b0 Try.underlying24 rfl info_Rice
    have hl1 := run_loadVar_row (P := Try.prog) wf (w.heap.size + 1) 94 94 #[.int .i64 0, .int .i64 0, .int .i64 0] (0, 0) _ hH.b1 Try.underlying94 rfl info_cut
    simp [asAddr, Result.andThen, hl0, hl1]
  have hb4 : (getE s (getA s a 2) 4 == 0) = true := by rw [c3]; rfl
  have c4 : ¬ cutOk b r (getV s (getA s a 2) 4) := fun hh => by
    unfold rdTop at hn
    rw [if_pos ⟨c1, c2⟩, if_pos ⟨c3, hh⟩] at hn
    cases hn
  clear hn c1 hb c3
  generalize getV s a 2 = v2 at *
  go_enter Try.func85, Try.ntmps85
  go_wp2_with fail
  refine k2.mono ?_
  rintro e w2 ⟨rfl, h2, h3⟩
  have HH : Hid (HS0 w w2) := HN0.out.stays h3 (fun e => by unfold only at e; omega) (fun e => by unfold only at e; omega)
  have HS : Hid (Stays (only q) w w2) := (Stays.of_below HB0.out _).trans h3 (fun _ _ h => h)
  have HR : Hid (Rd w2 q s (getA s a 2)) := h2
  clear k2 h2 h3 HN0 HB0 HRd
  have k4 := number_spec q s hs (getA s a 2) hle2 4 (by omega) (by omega) w2 HR.out
  rw [hb4] at k4
  generalize getV s (getA s a 2) 4 = v4 at *
  have KC : Hid (∀ wx, Calls Try.prog 60 #[.int .i64 b, .int .i64 r, .int .i64 v4] wx fun e w' => ∃ p s f, e = .returned (.tuple #[cutV p s f, .bool false]) ∧ Below wx.heap.size wx w') := fun wx => cutOf_no b v4 r c4 wx
  clear c4
  go_wp2_with fail
  refine k4.mono ?_
  rintro e w3 ⟨rfl, h2, h3⟩
  have HH3 : Hid (HS0 w w3) := HH.out.stays h3 (fun e => by unfold only at e; omega) (fun e => by unfold only at e; omega)
  have HS3 : Hid (Stays (only q) w w3) := HS.out.trans h3 (fun _ _ h => h)
  have HR3 : Hid (Rd w3 q s (getA s (getA s a 2) 4)) := h2
  clear k4 h2 h3 HH HS HR
  go_wp2_with fail
  refine (KC.out w3).mono ?_
  rintro e w4 ⟨p, sz, f, rfl, hb4'⟩
  have HH4 : Hid (HS0 w (w4.alloc (.cells #[.int .i64 p, .int .i64 sz, .int .i64 f] 94))) := (HH3.out.below hb4').below ((Below.refl _ _).alloc (Nat.le_refl _) _)
  have HS4 : Hid (Stays (only q) w (w4.alloc (.cells #[.int .i64 p, .int .i64 sz, .int .i64 f] 94))) := (HS3.out.trans (Stays.of_below hb4' _) (fun _ _ h => h)).trans (Stays.of_below ((Below.refl _ _).alloc (Nat.le_refl _) _) _) (fun _ _ h => h)
  clear hb4' HH3 HS3 HR3
  have hb0 := HH4.out.b0
  have hb1 := HH4.out.b1
  have u0 : (w4.alloc (.cells #[.int .i64 p, .int .i64 sz, .int .i64 f] 94)).cell? ⟨w.heap.size, 0, none⟩ = some (.int .i64 0) := by rw [cell_of_row _ _ _ _ _ _ hb0]; rfl
  have fu0 : (w4.alloc (.cells #[.int .i64 p, .int .i64 sz, .int .i64 f] 94)).frozen? ⟨w.heap.size, 0, none⟩ = false := by simp [World.frozen?, hb0]
  have u1 : (w4.alloc (.cells #[.int .i64 p, .int .i64 sz, .int .i64 f] 94)).cell? ⟨w.heap.size, 1, none⟩ = some (.int .i64 0) := by rw [cell_of_row _ _ _ _ _ _ hb0]; rfl
  have fu1 : (w4.alloc (.cells #[.int .i64 p, .int .i64 sz, .int .i64 f] 94)).frozen? ⟨w.heap.size, 1, none⟩ = false := by simp [World.frozen?, hb0]
  have u2 : (w4.alloc (.cells #[.int .i64 p, .int .i64 sz, .int .i64 f] 94)).cell? ⟨w.heap.size, 2, none⟩ = some (.slice none 0 0) := by rw [cell_of_row _ _ _ _ _ _ hb0]; rfl
  have fu2 : (w4.alloc (.cells #[.int .i64 p, .int .i64 sz, .int .i64 f] 94)).frozen? ⟨w.heap.size, 2, none⟩ = false := by simp [World.frozen?, hb0]
  have u3 : (w4.alloc (.cells #[.int .i64 p, .int .i64 sz, .int .i64 f] 94)).cell? ⟨w.heap.size, 3, none⟩ = some (.slice none 0 0) := by rw [cell_of_row _ _ _ _ _ _ hb0]; rfl
  have fu3 : (w4.alloc (.cells #[.int .i64 p, .int .i64 sz, .int .i64 f] 94)).frozen? ⟨w.heap.size, 3, none⟩ = false := by simp [World.frozen?, hb0]
  have v0 : (w4.alloc (.cells #[.int .i64 p, .int .i64 sz, .int .i64 f] 94)).cell? ⟨w.heap.size + 1, 0, none⟩ = some (.int .i64 0) := by rw [cell_of_row _ _ _ _ _ _ hb1]; rfl
  have fv0 : (w4.alloc (.cells #[.int .i64 p, .int .i64 sz, .int .i64 f] 94)).frozen? ⟨w.heap.size + 1, 0, none⟩ = false := by simp [World.frozen?, hb1]
  have v1 : (w4.alloc (.cells #[.int .i64 p, .int .i64 sz, .int .i64 f] 94)).cell? ⟨w.heap.size + 1, 1, none⟩ = some (.int .i64 0) := by rw [cell_of_row _ _ _ _ _ _ hb1]; rfl
  have fv1 : (w4.alloc (.cells #[.int .i64 p, .int .i64 sz, .int .i64 f] 94)).frozen? ⟨w.heap.size + 1, 1, none⟩ = false := by simp [World.frozen?, hb1]
  have v2 : (w4.alloc (.cells #[.int .i64 p, .int .i64 sz, .int .i64 f] 94)).cell? ⟨w.heap.size + 1, 2, none⟩ = some (.int .i64 0) := by rw [cell_of_row _ _ _ _ _ _ hb1]; rfl
  have fv2 : (w4.alloc (.cells #[.int .i64 p, .int .i64 sz, .int .i64 f] 94)).frozen? ⟨w.heap.size + 1, 2, none⟩ = false := by simp [World.frozen?, hb1]
  clear hb0 hb1
  go_wp2_with fail
  generalize hwf : World.setCell _ _ _ = wf
  have hH : HS0 w wf := by rw [← hwf]; exact HH4.out.again
  have hS : Stays (only q) w wf := by rw [← hwf]; exact stays_again _ (Nat.le_refl _) HS4.out
  refine bodyPost_ret (v := .tuple #[zRice, cutV 0 0 0, .bool false]) ?_ rfl ⟨rfl, hS⟩
  rw [results_three rfl]
  have hl0 := run_loadVar_row (P := Try.prog) wf (w.heap.size) 24 24 #[.int .i64 0, .int .i64 0, .slice none 0 0, .slice none 0 0] (0, 0) _ hH.b0 Try.underlying24 rfl info_Rice
  have hl1 := run_loadVar_row (P := Try.prog) wf (w.heap.size + 1) 94 94 #[.int .i64 0, .int .i64 0, .int .i64 0] (0, 0) _ hH.b1 Try.underlying94 rfl info_cut
  simp [asAddr, Result.andThen, hl0, hl1]

end Go.Proofs.Ytkhdkmdiblomhaa
