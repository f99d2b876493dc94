/- Own text: the walk of the program's least. -/
import Derived.Test.YtdlakbgcflekkaaQ8dec
namespace Go.Proofs.Ytdlakbgcflekkaa
open Go.RowKit
set_option linter.unusedSimpArgs false
set_option linter.unusedVariables false

theorem info_prices : (Try.prog.info? 109).map (·.size) = some 15 := by kernel_rfl
def pxA (f : Nat → Int) : Array Value := ((List.range 15).map fun k => Value.int .i64 (f k)).toArray
theorem pxA_size (f : Nat → Int) : (pxA f).size = 15 := by simp [pxA]
theorem pxA_get (f : Nat → Int) (j : Nat) (h : j < 15) : (pxA f)[j]? = some (.int .i64 (f j)) := by
  simp [pxA, List.getElem?_map, List.getElem?_range h]
theorem undPx : Try.prog.underlying 109 = some (.array 15 3) := by kernel_rfl
theorem run_index_px (A : Array Value) (hsz : A.size = 15) (v : Int) (j : Nat) (h : j < 15) (hv : A[j]? = some (.int .i64 v)) (w : World) : (Instr.index 109 (.agg A) (.int .i64 (j : Int))).run Try.prog w = .ok (.int .i64 v) w := by
  have hn : 0 ≤ (j : Int) ∧ (j : Int) < ((15 : Nat) : Int) := by omega
  simp [Instr.index, run_underlying undPx, asIntOf, hn, go_sem, size3, h]
  rw [hv]
  rfl
theorem exp15 (A : Array Value) (h : A.size = 15) : (#[A[0]'(by omega), A[1]'(by omega), A[2]'(by omega), A[3]'(by omega), A[4]'(by omega), A[5]'(by omega), A[6]'(by omega), A[7]'(by omega), A[8]'(by omega), A[9]'(by omega), A[10]'(by omega), A[11]'(by omega), A[12]'(by omega), A[13]'(by omega), A[14]'(by omega)] : Array Value) = A := by
  apply Array.ext
  · exact h.symm
  · intro i h1 h2
    have : i = 0 ∨ i = 1 ∨ i = 2 ∨ i = 3 ∨ i = 4 ∨ i = 5 ∨ i = 6 ∨ i = 7 ∨ i = 8 ∨ i = 9 ∨ i = 10 ∨ i = 11 ∨ i = 12 ∨ i = 13 ∨ i = 14 := by omega
    rcases this with rfl | rfl | rfl | rfl | rfl | rfl | rfl | rfl | rfl | rfl | rfl | rfl | rfl | rfl | rfl <;> rfl
/-- the least place of the least number, of 0 to n. -/
def bestK (f : Nat → Nat) : Nat → Nat
  | 0 => 0
  | n + 1 => if f (n + 1) < f (bestK f n) then n + 1 else bestK f n
theorem bestK_le (f : Nat → Nat) (n : Nat) : bestK f n ≤ n := by
  induction n with
  | zero => exact Nat.le_refl _
  | succ n ih => unfold bestK; split <;> omega
set_option maxRecDepth 20000 in
set_option maxHeartbeats 3200000 in
theorem least_spec (f : Nat → Nat) (hf : ∀ k, f k ≤ 1000000000) (w : World) :
    Calls Try.prog 69 #[.agg (pxA fun k => (f k : Int))] w fun en w' => en = .returned (.int .i64 (bestK f 14 : Int)) ∧ Below w.heap.size w w' := by
  have hsz := pxA_size (fun k => (f k : Int))
  have hget := pxA_get (fun k => (f k : Int))
  generalize pxA (fun k => (f k : Int)) = A at *
  have hbx : (w.alloc (.cells A 109)).heap[w.heap.size]? = some (.cells A 109 (0, 0)) := heap_alloc_new _ _
  have hld := run_loadVar_row (P := Try.prog) (w.alloc (.cells A 109)) w.heap.size 109 109 A (0, 0) _ hbx Try.underlying109 rfl (by rw [hsz]; exact info_prices)
  go_enter Try.func69, Try.ntmps69
  go_wp2_with fail
  rw [exp15 A hsz]
  have HBX : Hid ((w.alloc (.cells A 109)).heap[w.heap.size]? = some (.cells A 109 (0, 0))) := hbx
  have HBL : Hid (Below w.heap.size w (w.alloc (.cells A 109))) := (Below.refl _ _).alloc (Nat.le_refl _) _
  clear hbx hld
  generalize hwa : w.alloc _ = wa at *
  clear hwa
  go_loopw [3, 4, 5, 7] (fun s3 s4 s5 s7 wr => ∃ j : Nat, j ≤ 15 ∧ s7 = .int .i64 (j : Int) ∧ s3 = .int .i64 ((bestK f (j - 1) : Nat) : Int) ∧ wr = wa) (fun _ _ _ s7 _ => 15 - (intOf s7).toNat)
  case atStart => exact ⟨0, by omega, rfl, rfl, rfl⟩
  case round =>
    obtain ⟨j, hj, rfl, rfl, rfl⟩ := hrel
    by_cases hlt : j < 15
    · have hb := bestK_le f (j - 1)
      have hg := hget j hlt
      have hgb := hget (bestK f (j - 1)) (by omega)
      have hc : wr.cell? ⟨w.heap.size, bestK f (j - 1), none⟩ = some (.int .i64 (f (bestK f (j - 1)) : Int)) := by rw [cell_of_row _ _ _ _ _ _ HBX.out]; exact hgb
      have HST : Hid (bestK f (j + 1 - 1) = if f j < f (bestK f (j - 1)) then j else bestK f (j - 1)) := by
        show _ = _
        cases j with
        | zero => simp [bestK]
        | succ j => rfl
      have h1 := hf j
      have h2 := hf (bestK f (j - 1))
      have hix := run_index_px A hsz (f j : Int) j hlt hg
      clear hget hgb hf hg
      generalize bestK f (j - 1) = bk at *
      generalize hv1 : f j = v1 at *
      generalize hv2 : f bk = v2 at *
      have hb1 : ((v1 : Int) != -1) = true := by rw [bne_iff_ne]; omega
      have hb2 : ((v2 : Int) == -1) = false := by rw [beq_eq_false_iff_ne]; omega
      by_cases hv : v1 < v2
      · rw [if_pos hv] at HST
        go_wp2_with fail
        go_roundw
        case rel => exact ⟨j + 1, by omega, by go_num, by rw [HST.out], by first | rfl | trivial⟩
        case measure => simp [intOf]; omega
      · rw [if_neg hv] at HST
        go_wp2_with fail
        go_roundw
        case rel => exact ⟨j + 1, by omega, by go_num, by rw [HST.out], by first | rfl | trivial⟩
        case measure => simp [intOf]; omega
    · have hj15 : j = 15 := by omega
      subst hj15
      go_wp2_with fail
      go_ret
      exact ⟨rfl, HBL.out⟩

end Go.Proofs.Ytdlakbgcflekkaa
