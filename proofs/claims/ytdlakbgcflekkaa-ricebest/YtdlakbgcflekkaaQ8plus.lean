/- Own text: the walk of the program's plus. -/
import Derived.Test.YtdlakbgcflekkaaQ8least
namespace Go.Proofs.Ytdlakbgcflekkaa
open Go.RowKit
set_option linter.unusedSimpArgs false
set_option linter.unusedVariables false

theorem pxA_all (f : Nat → Int) : (pxA f).all (·.oneCell') = true := by
  simp [pxA, Value.oneCell']
theorem pxA_congr (f g : Nat → Int) (h : ∀ k, k < 15 → f k = g k) : pxA f = pxA g := by
  apply Array.ext_getElem?
  intro i
  by_cases hi : i < 15
  · rw [pxA_get _ i hi, pxA_get _ i hi, h i hi]
  · rw [Array.getElem?_eq_none (by rw [pxA_size]; omega), Array.getElem?_eq_none (by rw [pxA_size]; omega)]
theorem pxA_set (f : Nat → Int) (j : Nat) (v : Int) (h : j < 15) : (pxA f).setIfInBounds j (.int .i64 v) = pxA (fun k => if k = j then v else f k) := by
  apply Array.ext_getElem?
  intro i
  rw [Array.getElem?_setIfInBounds]
  by_cases hi : i < 15
  · rw [pxA_get _ i hi, pxA_get _ i hi, pxA_size]
    by_cases e : j = i
    · subst e; simp [h]
    · have e' : ¬ i = j := fun x => e x.symm
      simp [e, e']
  · have h1 : (pxA f)[i]? = none := Array.getElem?_eq_none (by rw [pxA_size]; omega)
    have h2 : (pxA (fun k => if k = j then v else f k))[i]? = none := Array.getElem?_eq_none (by rw [pxA_size]; omega)
    have e : ¬ j = i := by omega
    rw [h1, h2]; simp [e]
theorem loadAt_row (w : World) (g : Nat) (A : Array Value) (hs : A.size = 15) (hg : w.heap[g]? = some (.cells A 109 (0, 0))) : (Instr.loadAt 109 (.pointer (some ⟨g, 0, none⟩))).run Try.prog w = .ok (.agg A) w := by
  simp only [Instr.loadAt, Instr.sureAddr, Sem.run_bind, Sem.run_pure, Result.andThen_ok, run_loadVar_row (P := Try.prog) w g 109 109 A (0, 0) _ hg Try.underlying109 rfl (by rw [hs]; exact info_prices)]
theorem storeAt_row (w : World) (g : Nat) (A B : Array Value) (hs : A.size = 15) (hb : B.size = 15) (h1 : B.all (·.oneCell') = true) (hg : w.heap[g]? = some (.cells A 109 (0, 0))) : (Instr.storeAt 109 (.pointer (some ⟨g, 0, none⟩)) (.agg B)).run Try.prog w = .ok () (w.setRow g B) := by
  simp only [Instr.storeAt, Instr.sureAddr, Sem.run_bind, Sem.run_pure, Result.andThen_ok, run_storeVar_row (P := Try.prog) w g 109 109 A B hg (by rw [hb]; exact info_prices) (by rw [hs, hb]) h1]
theorem heap_setRow_other (w : World) (g k : Nat) (B : Array Value) (h : k ≠ g) : (w.setRow g B).heap[k]? = w.heap[k]? := by
  have h' : ¬ g = k := fun e => h e.symm
  simp [World.setRow, Array.getElem?_modify, h']
theorem below_setRow {B : Nat} {a w : World} (h : Below B a w) (g : Nat) (C : Array Value) (hg : B ≤ g) : Below B a (w.setRow g C) :=
  ⟨h.os, h.tape, h.output, by have := h.size; simpa [World.setRow] using this, fun k hk => by rw [heap_setRow_other w g k C (by omega)]; exact h.block k hk⟩
set_option maxRecDepth 20000 in
set_option maxHeartbeats 3200000 in
theorem plus_spec (f g : Nat → Nat) (hf : ∀ k, f k ≤ 1000000000) (hg : ∀ k, g k ≤ 1000000000) (w : World) :
    Calls Try.prog 70 #[.agg (pxA fun k => (f k : Int)), .agg (pxA fun k => (g k : Int))] w fun en w' => en = .returned (.agg (pxA fun k => ((f k + g k : Nat) : Int))) ∧ Below w.heap.size w w' := by
  have HSz : Hid (∀ h : Nat → Int, (pxA h).size = 15) := pxA_size
  have HB : Hid (Below w.heap.size w (((w.alloc (.cells (pxA fun k => (f k : Int)) 109)).alloc (.cells (pxA fun k => (g k : Int)) 109)).alloc (.cells #[.int .i64 0, .int .i64 0, .int .i64 0, .int .i64 0, .int .i64 0, .int .i64 0, .int .i64 0, .int .i64 0, .int .i64 0, .int .i64 0, .int .i64 0, .int .i64 0, .int .i64 0, .int .i64 0, .int .i64 0] 109))) := ((((Below.refl _ _).alloc (Nat.le_refl _) _).alloc (by simp) _).alloc (by simp; omega) _)
  have H3 : Hid ((((w.alloc (.cells (pxA fun k => (f k : Int)) 109)).alloc (.cells (pxA fun k => (g k : Int)) 109)).alloc (.cells #[.int .i64 0, .int .i64 0, .int .i64 0, .int .i64 0, .int .i64 0, .int .i64 0, .int .i64 0, .int .i64 0, .int .i64 0, .int .i64 0, .int .i64 0, .int .i64 0, .int .i64 0, .int .i64 0, .int .i64 0] 109)).heap[w.heap.size]? = some (.cells (pxA fun k => (f k : Int)) 109 (0, 0)) ∧ (((w.alloc (.cells (pxA fun k => (f k : Int)) 109)).alloc (.cells (pxA fun k => (g k : Int)) 109)).alloc (.cells #[.int .i64 0, .int .i64 0, .int .i64 0, .int .i64 0, .int .i64 0, .int .i64 0, .int .i64 0, .int .i64 0, .int .i64 0, .int .i64 0, .int .i64 0, .int .i64 0, .int .i64 0, .int .i64 0, .int .i64 0] 109)).heap[w.heap.size + 1]? = some (.cells (pxA fun k => (g k : Int)) 109 (0, 0)) ∧ (((w.alloc (.cells (pxA fun k => (f k : Int)) 109)).alloc (.cells (pxA fun k => (g k : Int)) 109)).alloc (.cells #[.int .i64 0, .int .i64 0, .int .i64 0, .int .i64 0, .int .i64 0, .int .i64 0, .int .i64 0, .int .i64 0, .int .i64 0, .int .i64 0, .int .i64 0, .int .i64 0, .int .i64 0, .int .i64 0, .int .i64 0] 109)).heap[w.heap.size + 2]? = some (.cells #[.int .i64 0, .int .i64 0, .int .i64 0, .int .i64 0, .int .i64 0, .int .i64 0, .int .i64 0, .int .i64 0, .int .i64 0, .int .i64 0, .int .i64 0, .int .i64 0, .int .i64 0, .int .i64 0, .int .i64 0] 109 (0, 0))) := heap_three _ _ _ _
  have e0 : (#[.int .i64 0, .int .i64 0, .int .i64 0, .int .i64 0, .int .i64 0, .int .i64 0, .int .i64 0, .int .i64 0, .int .i64 0, .int .i64 0, .int .i64 0, .int .i64 0, .int .i64 0, .int .i64 0, .int .i64 0] : Array Value).size = 15 := rfl
  generalize hzz : (#[.int .i64 0, .int .i64 0, .int .i64 0, .int .i64 0, .int .i64 0, .int .i64 0, .int .i64 0, .int .i64 0, .int .i64 0, .int .i64 0, .int .i64 0, .int .i64 0, .int .i64 0, .int .i64 0, .int .i64 0] : Array Value) = Z at *
  go_enter Try.func70, Try.ntmps70
  go_wp2_with fail
  generalize hwa : World.alloc _ _ = wa at *
  clear hwa hzz
  go_loopw [5, 6] (fun s5 s6 wr => ∃ j : Nat, j ≤ 15 ∧ s6 = .int .i64 (j : Int) ∧ wr.heap[w.heap.size]? = some (.cells (pxA fun k => ((if k < j then f k + g k else f k : Nat) : Int)) 109 (0, 0)) ∧ wr.heap[w.heap.size + 1]? = some (.cells (pxA fun k => (g k : Int)) 109 (0, 0)) ∧ wr.heap[w.heap.size + 2]? = some (.cells Z 109 (0, 0)) ∧ Below w.heap.size w wr) (fun _ s6 _ => 15 - (intOf s6).toNat)
  case atStart => exact ⟨0, by omega, rfl, by simpa using H3.out.1, H3.out.2.1, H3.out.2.2, HB.out⟩
  case round =>
    clear H3 HB
    obtain ⟨j, hj, rfl, h1, h2, h3, h4⟩ := hrel
    have HH : Hid (wr.heap[w.heap.size]? = some (.cells (pxA fun k => ((if k < j then f k + g k else f k : Nat) : Int)) 109 (0, 0)) ∧ wr.heap[w.heap.size + 1]? = some (.cells (pxA fun k => (g k : Int)) 109 (0, 0)) ∧ wr.heap[w.heap.size + 2]? = some (.cells Z 109 (0, 0)) ∧ Below w.heap.size w wr) := ⟨h1, h2, h3, h4⟩
    by_cases hlt : j < 15
    · have c1 : wr.cell? ⟨w.heap.size, j, none⟩ = some (.int .i64 (f j : Int)) := by
        rw [cell_of_row _ _ _ _ _ _ h1, pxA_get _ j hlt, if_neg (by omega)]
      have c2 : wr.cell? ⟨w.heap.size + 1, j, none⟩ = some (.int .i64 (g j : Int)) := by
        rw [cell_of_row _ _ _ _ _ _ h2, pxA_get _ j hlt]
      have z1 : wr.frozen? ⟨w.heap.size, j, none⟩ = false := by simp [World.frozen?, h1]
      have b1 := hf j
      have b2 := hg j
      have HV : Hid (∀ k, (if k = j then ((f j + g j : Nat) : Int) else ((if k < j then f k + g k else f k : Nat) : Int)) = ((if k < j + 1 then f k + g k else f k : Nat) : Int)) := fun k => by
        by_cases e : k = j
        · subst e; simp
        · by_cases e2 : k < j
          · rw [if_neg e, if_pos e2, if_pos (by omega)]
          · rw [if_neg e, if_neg e2, if_neg (by omega)]
      clear h1 h2 h3 h4 hf hg
      have q1 : ((f j : Int) == -1) = false := by rw [beq_eq_false_iff_ne]; omega
      have q2 : ((g j : Int) == -1) = false := by rw [beq_eq_false_iff_ne]; omega
      have hsum : (f j : Int) + (g j : Int) = ((f j + g j : Nat) : Int) := by push_cast; rfl
      have b3 : ((f j + g j : Nat) : Int) ≤ 2000000000 := by omega
      generalize hfj : ((f j + g j : Nat) : Int) = sv at *
      generalize (f j : Int) = v1 at *
      generalize (g j : Int) = v2 at *
      go_wp2_with fail
      go_region
      go_wp2_with fail
      go_roundw
      case rel =>
        refine ⟨j + 1, by omega, by go_num, ?_, ?_, ?_, ?_⟩
        · have hh := block_setCell wr w.heap.size j _ 109 (.int .i64 sv) HH.out.1
          rw [pxA_set _ j _ hlt] at hh
          have hfe : (fun k => if k = j then sv else ((if k < j then f k + g k else f k : Nat) : Int)) = (fun k => ((if k < j + 1 then f k + g k else f k : Nat) : Int)) := funext (fun k => HV.out k)
          rw [hfe] at hh
          exact hh
        · exact block_set2 _ _ _ _ _ _ _ HH.out.2.1 (by omega)
        · exact block_set2 _ _ _ _ _ _ _ HH.out.2.2.1 (by omega)
        · exact (HH.out.2.2.2.setCell (Nat.le_refl _) _).drew
      case measure => simp [intOf]; omega
    · have hj15 : j = 15 := by omega
      subst hj15
      have eA : (pxA fun k => ((if k < 15 then f k + g k else f k : Nat) : Int)) = pxA fun k => ((f k + g k : Nat) : Int) := pxA_congr _ _ (fun k hk => by rw [if_pos hk])
      rw [eA] at h1 HH
      have hRs : (pxA fun k => ((f k + g k : Nat) : Int)).size = 15 := pxA_size _
      have hRa : (pxA fun k => ((f k + g k : Nat) : Int)).all (·.oneCell') = true := pxA_all _
      clear h1 h2 h3 h4 eA
      generalize hR : pxA (fun k => ((f k + g k : Nat) : Int)) = R at *
      have HR : Hid (pxA (fun k => ((f k + g k : Nat) : Int)) = R) := hR
      clear hR
      go_wp2_with (first
        | (refine wpList_load_row rfl 109 _ rfl w.heap.size rfl 109 R (0, 0) _ HH.out.1 Try.underlying109 rfl (by rw [hRs]; exact info_prices) ?_)
        | (refine wpList_store_row rfl 109 _ _ rfl (w.heap.size + 2) R rfl rfl 109 Z HH.out.2.2.1 (by rw [hRs]; exact info_prices) (by rw [e0, hRs]) hRa ?_))
      refine bodyPost_ret (v := .agg R) ?_ rfl ⟨by rw [← HR.out], below_setRow HH.out.2.2.2 _ _ (by omega)⟩
      exact results_cell_row rfl _ _ (w.heap.size + 2) 109 R (0, 0) _ rfl (setRow_heap wr (w.heap.size + 2) Z R 109 _ HH.out.2.2.1) Try.underlying109 rfl (by rw [hRs]; exact info_prices)

end Go.Proofs.Ytdlakbgcflekkaa
