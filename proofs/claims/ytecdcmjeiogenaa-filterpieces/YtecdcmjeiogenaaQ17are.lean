/- Own text: whether all numbers are of 32 bits. -/
import Derived.Test.YtecdcmjeiogenaaQ17new
namespace Go.Proofs.Ytecdcmjeiogenaa
open Go.RowKit
set_option linter.unusedSimpArgs false
set_option linter.unusedVariables false

attribute [local go_sem] Oper.semAt_some
set_option maxRecDepth 20000 in
set_option maxHeartbeats 1600000 in
theorem p_are (l : List Int) (lo : Option Addr) (lc : Nat) (w : World) (h : IntsAt w lo l) : Calls Try.prog 33 #[.slice lo l.length lc] w fun e w' => e = .returned (.bool (decide (∀ x ∈ l, In32 x))) ∧ w' = w := by
  have HL := hid h
  have hm : l.length ≤ 17592186044415 := h.len
  clear h
  go_enter Try.func33, Try.ntmps33
  go_wp2_with fail
  go_loopw [4, 7] (fun _ sk wr => ∃ k : Nat, k ≤ l.length ∧ sk = .int .i64 (k : Int) ∧ (∀ x ∈ l.take k, In32 x) ∧ wr = w) (fun _ sk _ => l.length - (intOf sk).toNat)
  case atStart => exact ⟨0, Nat.zero_le _, rfl, by simp, rfl⟩
  case round =>
    obtain ⟨k, hk, rfl, ha, rfl⟩ := hrel
    have HA := hid ha
    clear ha
    by_cases hlt : k < l.length
    · obtain ⟨b, off, rfl, r0⟩ := HL.out.at k hlt
      have r1 := r0 wr (Below.refl _ _)
      clear r0
      have HN : Hid (l.take (k + 1) = l.take k ++ [l.getD k 0]) := take_snoc l k hlt
      have HM : Hid (l.getD k 0 ∈ l) := getD_mem l k hlt
      generalize l.getD k 0 = x at *
      by_cases h1 : x < -2147483648
      · go_wp2_with fail
        go_ret
        have : ¬ (∀ x ∈ l, In32 x) := fun q => by have := q x HM.out; omega
        exact ⟨by rw [decide_eq_false this]; rfl, rfl⟩
      · by_cases h2 : 2147483647 < x
        · go_wp2_with fail
          go_ret
          have : ¬ (∀ x ∈ l, In32 x) := fun q => by have := q x HM.out; omega
          exact ⟨by rw [decide_eq_false this]; rfl, rfl⟩
        · have HB : Hid (In32 x) := ⟨by omega, by omega⟩
          go_wp2_with fail
          go_roundw
          case rel => exact ⟨k + 1, by omega, by go_num, by rw [HN.out]; intro y hy; rcases List.mem_append.1 hy with hy | hy; exact HA.out y hy; rw [List.mem_singleton] at hy; rw [hy]; exact HB.out, trivial⟩
          case measure => simp [intOf]; omega
    · have hall : ∀ x ∈ l, In32 x := by have := HA.out; rwa [List.take_of_length_le (by omega)] at this
      have HH := hid hall
      clear hall
      go_wp2_with fail
      go_ret
      exact ⟨by rw [decide_eq_true HH.out]; rfl, rfl⟩

end Go.Proofs.Ytecdcmjeiogenaa
