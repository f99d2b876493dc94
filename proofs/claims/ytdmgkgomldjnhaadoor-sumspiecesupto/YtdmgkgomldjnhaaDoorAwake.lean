/- Own text: the walk of the laws' own examples ('awake'): they answer true, and of what was there nothing turns. -/
import Derived.Test.YtdmgkgomldjnhaaDoorRefs
namespace Go.Proofs.YtdmgkgomldjnhaaDoor
open Go.RowKit
set_option linter.unusedSimpArgs false
set_option linter.unusedVariables false

theorem ex8 : c8 ⟨#[49, 50, 51, 52, 53, 54, 55, 56, 57]⟩ = 244 := by decide +kernel
theorem ex16 : c16 ⟨#[49, 50, 51, 52, 53, 54, 55, 56, 57]⟩ = 65256 := by decide +kernel
theorem ex32 : c32 ⟨#[49, 50, 51, 52, 53, 54, 55, 56, 57]⟩ = 2309065087 := by decide +kernel
theorem ex33 : c33 ⟨#[49, 50, 51, 52, 53, 54, 55, 56, 57]⟩ = 3421780262 := by decide +kernel
theorem ex0 : c16 ⟨#[]⟩ = 0 := by decide +kernel

theorem RulesAt.two {w a b : World} (h : RulesAt w) (h1 : Below w.heap.size w a) (h2 : Below a.heap.size a b) : Below w.heap.size w b := h1.trans (h2.mono h1.size)

set_option maxRecDepth 20000 in
set_option maxHeartbeats 1600000 in
theorem awake_spec (w : World) (hR : RulesAt w) : Calls Tryd.prog 16 #[] w fun e w' => e = .returned (.bool true) ∧ Below w.heap.size w w' := by
  have k1 := fun w hR => crc8_spec ⟨#[49, 50, 51, 52, 53, 54, 55, 56, 57]⟩ (by decide) w hR
  have k2 := fun w hR => crc16_spec ⟨#[49, 50, 51, 52, 53, 54, 55, 56, 57]⟩ (by decide) w hR
  have k3 := fun w hR => ogg_spec ⟨#[49, 50, 51, 52, 53, 54, 55, 56, 57]⟩ (by decide) w hR
  have k4 := fun w hR => crc32_spec ⟨#[49, 50, 51, 52, 53, 54, 55, 56, 57]⟩ (by decide) w hR
  have k5 := fun w hR => crc16_spec ⟨#[]⟩ (by decide) w hR
  have k6 := fun w hR => new_none 7 (by decide) (by decide) (by decide) (by decide) w hR
  rw [ex8] at k1
  rw [ex16] at k2
  rw [ex32] at k3
  rw [ex33] at k4
  rw [ex0] at k5
  have H0 : Hid (RulesAt w) := hR
  clear hR
  go_enter Tryd.func16, Tryd.ntmps16
  go_wp2_with fail
  refine (k1 _ H0.out).mono ?_
  rintro e w1 ⟨rfl, hB⟩
  have H1 : Hid (RulesAt w1) := H0.out.below hB
  have B1 : Hid (Below w.heap.size w w1) := hB
  clear hB
  go_wp2_with fail
  refine (k2 _ H1.out).mono ?_
  rintro e w2 ⟨rfl, hB⟩
  have H2 : Hid (RulesAt w2) := H1.out.below hB
  have B2 : Hid (Below w.heap.size w w2) := H0.out.two B1.out hB
  clear hB
  go_wp2_with fail
  refine (k3 _ H2.out).mono ?_
  rintro e w3 ⟨rfl, hB⟩
  have H3 : Hid (RulesAt w3) := H2.out.below hB
  have B3 : Hid (Below w.heap.size w w3) := H0.out.two B2.out hB
  clear hB
  go_wp2_with fail
  refine (k4 _ H3.out).mono ?_
  rintro e w4 ⟨rfl, hB⟩
  have H4 : Hid (RulesAt w4) := H3.out.below hB
  have B4 : Hid (Below w.heap.size w w4) := H0.out.two B3.out hB
  clear hB
  go_wp2_with fail
  refine (k5 _ H4.out).mono ?_
  rintro e w5 ⟨rfl, hB⟩
  have H5 : Hid (RulesAt w5) := H4.out.below hB
  have B5 : Hid (Below w.heap.size w w5) := H0.out.two B4.out hB
  clear hB
  go_wp2_with fail
  refine (k6 _ H5.out).mono ?_
  rintro e w6 ⟨rfl, hB⟩
  have B6 : Hid (Below w.heap.size w w6) := H0.out.two B5.out hB
  clear hB
  go_wp2
  go_ret
  exact ⟨rfl, B6.out⟩

end Go.Proofs.YtdmgkgomldjnhaaDoor
