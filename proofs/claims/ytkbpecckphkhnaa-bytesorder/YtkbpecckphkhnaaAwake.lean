/- Own text: the walk of the laws' own examples ('awake'): they answer true, and of what was there nothing turns. -/
import Derived.Test.YtkbpecckphkhnaaUncodes
import Derived.Test.YtkbpecckphkhnaaFromRates
namespace Go.Proofs.Ytkbpecckphkhnaa
open Go.RowKit
set_option linter.unusedSimpArgs false
set_option linter.unusedVariables false

theorem ex_le : leT 258 2 = ⟨#[2, 1]⟩ ∧ wE 258 2 = 0 := by decide +kernel
theorem ex_coded : codT 128 = ⟨#[194, 128]⟩ ∧ codE 128 = 0 := by decide +kernel
theorem ex_uncoded : uncode (bytesOf ⟨#[194, 128]⟩) = (128, 2, 0) := by decide +kernel
theorem ex_long : uncode (bytesOf ⟨#[192, 128]⟩) = (0, 0, 2) := by decide +kernel
theorem ex_rate : ratT 44100 = ⟨#[64, 14, 172, 68, 0, 0, 0, 0, 0, 0]⟩ ∧ ratE 44100 = 0 := by decide +kernel
theorem ex_from : fromBe (bytesOf ⟨#[1, 2]⟩) = 258 := by decide +kernel

theorem bel_drewN {B n : Nat} {w w1 : World} (h : Below B w w1) : Below B w (w1.drewN n) := ⟨h.os, h.tape, h.output, h.size, h.block⟩

set_option maxRecDepth 20000 in
set_option maxHeartbeats 1600000 in
theorem awake_spec (w : World) : Calls Try.prog 12 #[] w fun e w' => e = .returned (.bool true) ∧ Below w.heap.size w w' := by
  have k1 := fun w => le_spec 258 2 (by omega) (by omega) w
  have k2 := fun w => coded_spec 128 (by omega) (by omega) w
  have k3 := fun w => uncoded_spec ⟨#[194, 128]⟩ (by decide) w
  have k4 := fun w => uncoded_spec ⟨#[192, 128]⟩ (by decide) w
  have k5 := fun w => rate_spec 44100 w
  have k6 := fun w => fromBe_spec ⟨#[1, 2]⟩ (by decide) w
  rw [ex_le.1, ex_le.2] at k1
  rw [ex_coded.1, ex_coded.2] at k2
  rw [ex_uncoded] at k3
  rw [ex_long] at k4
  rw [ex_rate.1, ex_rate.2] at k5
  rw [ex_from] at k6
  go_enter Try.func12, Try.ntmps12
  go_wp2_with fail
  refine (k1 _).mono ?_
  rintro e w1 ⟨rfl, hB1⟩
  go_wp2_with fail
  refine (k2 _).mono ?_
  rintro e w2 ⟨rfl, hB2⟩
  go_wp2_with fail
  refine (k3 _).mono ?_
  rintro e w3 ⟨rfl, n3, rfl⟩
  unfold triple
  go_wp2_with fail
  refine (k4 _).mono ?_
  rintro e w4 ⟨rfl, n4, rfl⟩
  unfold triple
  go_wp2_with fail
  refine (k5 _).mono ?_
  rintro e w5 ⟨rfl, hB5⟩
  go_wp2_with fail
  refine (k6 _).mono ?_
  rintro e w6 ⟨rfl, rfl⟩
  go_wp2
  go_ret
  have hA := hB1.trans (hB2.mono hB1.size)
  have hC : Below w.heap.size w (w2.drewN (n3 + n4)) := bel_drewN hA
  exact ⟨rfl, hC.trans (hB5.mono hC.size)⟩

end Go.Proofs.Ytkbpecckphkhnaa
