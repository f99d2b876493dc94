/- Own text: the program's wrap, sign, half and push; rows of numbers of 16 bits. -/
import Derived.Test.YtecdcmjeiogenaaR17see
import Derived.Laws.CopyRow
import Derived.Handy
namespace Go.Proofs.Ytecdcmjeiogenaa
open Go.RowKit
set_option linter.unusedSimpArgs false
set_option linter.unusedVariables false
attribute [local go_sem] Oper.semAt_some

set_option maxRecDepth 20000 in
set_option maxHeartbeats 800000 in
theorem p_wrap (n : Int) (w : World) : Calls Try.prog 29 #[.int .i64 n] w fun e w' => e = .returned (.int .i64 (w32 n)) ∧ w' = w := by
  go_enter Try.func29, Try.ntmps29
  go_wp2_with fail
  go_ret
  exact ⟨by rw [← wrap_64_32 n]; rfl, rfl⟩
set_option maxRecDepth 20000 in
set_option maxHeartbeats 800000 in
theorem p_half (n : Int) (w : World) : Calls Try.prog 26 #[.int .i64 n] w fun e w' => e = .returned (.int .i64 (n / 2)) ∧ w' = w := by
  go_enter Try.func26, Try.ntmps26
  go_wp2_with fail
  go_ret
  exact ⟨rfl, rfl⟩
set_option maxRecDepth 20000 in
set_option maxHeartbeats 800000 in
theorem p_sign (n : Int) (w : World) : Calls Try.prog 54 #[.int .i64 n] w fun e w' => e = .returned (.int .i64 (sgn n)) ∧ w' = w := by
  go_enter Try.func54, Try.ntmps54
  by_cases h1 : n < 0
  · have HE : Hid (sgn n = -1) := if_pos h1
    go_wp2_with fail
    go_ret
    exact ⟨by rw [HE.out]; rfl, rfl⟩
  · by_cases h2 : 0 < n
    · have HE : Hid (sgn n = 1) := (if_neg h1).trans (if_pos h2)
      go_wp2_with fail
      go_ret
      exact ⟨by rw [HE.out]; rfl, rfl⟩
    · have HE : Hid (sgn n = 0) := (if_neg h1).trans (if_neg h2)
      go_wp2_with fail
      go_ret
      exact ⟨by rw [HE.out]; rfl, rfl⟩
/-- A row of numbers of 16 bits: the block of cells that it is alone in. -/
def sC (L : List Int) : List Value := L.map fun n => Value.int .i16 n
theorem sC_length (L : List Int) : (sC L).length = L.length := by simp [sC]
theorem sC_append (L M : List Int) : sC (L ++ M) = sC L ++ sC M := by simp [sC]
theorem sC_one (L : List Int) : ∀ u ∈ sC L, u.oneCell' = true := by
  intro u hu
  obtain ⟨n, _, rfl⟩ := List.mem_map.1 hu
  rfl
def R16 (w : World) (b : Nat) (L : List Int) : Prop := w.heap[b]? = some (.cells (sC L).toArray 68 (0, 0))
theorem sC_at (L : List Int) (j : Nat) (hj : j < L.length) : (sC L).toArray[j]? = some (.int .i16 (L.getD j 0)) := by
  rw [List.getElem?_toArray]
  unfold sC
  rw [List.getElem?_map, List.getElem?_eq_getElem hj, List.getD_eq_getElem?_getD, List.getElem?_eq_getElem hj]
  rfl
theorem R16.c {w : World} {b : Nat} {L : List Int} (h : R16 w b L) (j : Nat) (hj : j < L.length) : w.cell? ⟨b, j, none⟩ = some (.int .i16 (L.getD j 0)) := by
  rw [cell_row h]; exact sC_at L j hj
theorem R16.fz {w : World} {b : Nat} {L : List Int} (h : R16 w b L) (j : Nat) : w.frozen? ⟨b, j, none⟩ = false := fz_of h j
theorem R16.lt {w : World} {b : Nat} {L : List Int} (h : R16 w b L) : b < w.heap.size := lt_of_block h
theorem R16.set {w : World} {b : Nat} {L : List Int} (h : R16 w b L) (j : Nat) (v : Int) : R16 (w.setCell ⟨b, j, none⟩ (.int .i16 v)) b (L.set j v) := by
  have hs := heap_setCell_same w b j _ _ (Value.int .i16 v) h
  unfold R16
  rw [hs]
  congr 2
  unfold sC
  rw [List.setIfInBounds_toArray, List.map_set]
theorem und16 : Try.prog.underlying 65 = some (.slice 68) := by kernel_rfl
theorem info16 : (Try.prog.info? 68).map (fun i => (i.zero, i.size, i.bytes)) = some (some (.int .i16 0), 1, 2) := by kernel_rfl
/-- Copy of a row one place on: the last one goes. -/
theorem copy_on (w : World) (b : Nat) (L : List Int) (hL : 1 ≤ L.length) (h : R16 w b L) :
    (Builtin.copy_ #[65, 65] 3 #[.slice (some ⟨b, 1, none⟩) (L.length - 1) (L.length - 1), .slice (some ⟨b, 0, none⟩) L.length L.length]).run Try.prog w = .ok (goInt ((L.length - 1 : Nat) : Int)) (w.setRow b (sC (L.getD 0 0 :: L.dropLast)).toArray) := by
  have hs : (Try.prog.info? 68).map (·.size) = some 1 := by kernel_rfl
  have hd : L.dropLast.length = L.length - 1 := List.length_dropLast
  have hrun := run_copy_row (P := Try.prog) w 65 65 3 68 b 1 (L.length - 1) (L.length - 1) ⟨b, 0, none⟩ L.length L.length _ 68 (sC L.dropLast) und16 hs h (by rw [sC_length, hd]; exact (Nat.min_eq_right (Nat.sub_le _ _)).symm) (fun j v hj => by
    have hjl : j < L.dropLast.length := by have := (List.getElem?_eq_some_iff.1 hj).1; rwa [sC_length] at this
    rw [Addr.add_mid, Nat.zero_add, h.c j (by omega), ← hj]
    unfold sC
    rw [List.getElem?_map, List.getElem?_dropLast, if_pos (by omega), List.getD_eq_getElem?_getD, List.getElem?_eq_getElem (by omega)]
    rfl) (by rw [sC_length, List.size_toArray, sC_length]; omega) (sC_one _)
  rw [hrun, sC_length, hd]
  congr 3
  show (sC L).take 1 ++ sC L.dropLast ++ (sC L).drop (1 + (L.length - 1)) = _
  rw [List.drop_of_length_le (by rw [sC_length]; omega), List.append_nil]
  cases L with
  | nil => simp at hL
  | cons a L => rfl
set_option maxRecDepth 20000 in
set_option maxHeartbeats 1600000 in
theorem p_push (w : World) (b : Nat) (L : List Int) (n : Int) (l : Nat) (hl : l = L.length) (hL : 2 ≤ L.length) (hL2 : L.length ≤ 1000) (h : R16 w b L) : Calls Try.prog 55 #[.slice (some ⟨b, 0, none⟩) l l, .int .i16 n] w fun e w' => e = .returned (.tuple #[]) ∧ R16 w' b (n :: L.dropLast) ∧ Stays (fun k => k = b) w w' := by
  subst hl
  have hcp := copy_on w b L (by omega) h
  have h1 := setRow_heap w b _ (sC (L.getD 0 0 :: L.dropLast)).toArray 68 (0, 0) h
  have H2 : Hid (R16 (w.setRow b (sC (L.getD 0 0 :: L.dropLast)).toArray) b (L.getD 0 0 :: L.dropLast)) := h1
  have hc0 := H2.out.c 0 (by simp)
  have hf0 := H2.out.fz 0
  have HY : Hid (Stays (fun k => k = b) w (w.setRow b (sC (L.getD 0 0 :: L.dropLast)).toArray)) := ⟨rfl, rfl, rfl, by rw [size_setRow]; exact Nat.le_refl _, fun k _ hk => setRow_other _ _ _ _ (fun e => hk e)⟩
  obtain ⟨m, hm⟩ : ∃ m, L.length = m + 1 := ⟨L.length - 1, by omega⟩
  rw [hm, Nat.add_sub_cancel] at hcp
  generalize w.setRow b (sC (L.getD 0 0 :: L.dropLast)).toArray = w2 at *
  rw [hm]
  have hm1 : 1 ≤ m := by omega
  have hm2 : m ≤ 1000 := by omega
  clear h h1 hm hL hL2
  go_enter Try.func55, Try.ntmps55
  go_wp2_with fail
  refine bodyPost_end (v := .tuple #[]) (results_none rfl _ _ _) rfl ?_
  exact ⟨rfl, H2.out.set 0 n, HY.out.setCell _ _ (.inl rfl)⟩

end Go.Proofs.Ytecdcmjeiogenaa
