/- Own text: the walks of a coded number's head: 'Len8', 'LeadingZeros8', 'headCount', 'headMark', 'codedLen'. -/
import Derived.Test.YtkbpecckphkhnaaFroms
import Derived.Test.YtkbpecckphkhnaaCplain
import Derived.Laws.MathBits
namespace Go.Proofs.Ytkbpecckphkhnaa
open Go.RowKit
set_option linter.unusedSimpArgs false
set_option linter.unusedVariables false

set_option maxRecDepth 100000 in
theorem len8_spec (x : Nat) (hx : x < 256) (w : World) : Calls Try.prog 39 #[.int .u8 (x : Int)] w fun e w' => e = .returned (.int .i64 (bitLen x : Int)) ∧ w' = w := by
  go_enter Try.func39, Try.ntmps39
  go_wp2
  go_ret
  refine ⟨ret_int ?_, rfl⟩
  rw [len8tab_get x]
  have := bitLen_le8 x hx
  unfold wrap64
  omega

theorem lz8_spec (x : Nat) (hx : x < 256) (w : World) : Calls Try.prog 36 #[.int .u8 (x : Int)] w fun e w' => e = .returned (.int .i64 ((8 - bitLen x : Nat) : Int)) ∧ w' = w := by
  have hb := bitLen_le8 x hx
  go_enter Try.func36, Try.ntmps36
  go_wp2_with (go_at_call 39; refine (len8_spec x hx w).mono ?_; rintro e w' ⟨rfl, rfl⟩)
  go_ret
  refine ⟨ret_int ?_, rfl⟩
  omega

theorem hc_all : ∀ b : Fin 256, ((8 - bitLen (255 - b.val)) = 0 ∧ hc b.val = 1) ∨ ((8 - bitLen (255 - b.val)) = 1 ∧ hc b.val = 0) ∨ ((8 - bitLen (255 - b.val)) = 8 ∧ hc b.val = 0) ∨
    (2 ≤ (8 - bitLen (255 - b.val)) ∧ (8 - bitLen (255 - b.val)) ≤ 7 ∧ hc b.val = (8 - bitLen (255 - b.val))) := by decide +kernel

theorem not_byte : ∀ b : Fin 256, bits BinOp.xor IntKind.u8 IntKind.u8.max (b.val : Int) = ((255 - b.val : Nat) : Int) := by decide +kernel

theorem headCount_spec (b : Nat) (hb : b < 256) (w : World) : Calls Try.prog 30 #[.int .u8 (b : Int)] w fun e w' => e = .returned (.int .i64 (hc b : Int)) ∧ w' = w := by
  have hall := hc_all ⟨b, hb⟩
  have hx := not_byte ⟨b, hb⟩
  simp only at hall hx
  have hs : IntKind.u8.signed = false := rfl
  have hL := lz8_spec (255 - b) (by omega) w
  generalize 8 - bitLen (255 - b) = o at *
  rcases hall with ⟨rfl, e⟩ | ⟨rfl, e⟩ | ⟨rfl, e⟩ | ⟨h2, h7, e⟩
  · rw [e]
    clear e
    go_enter Try.func30, Try.ntmps30
    go_wp2_with fail
    refine hL.mono ?_
    rintro e w1 ⟨rfl, rfl⟩
    go_wp2
    go_ret
    exact ⟨rfl, rfl⟩
  · rw [e]
    clear e
    go_enter Try.func30, Try.ntmps30
    go_wp2_with fail
    refine hL.mono ?_
    rintro e w1 ⟨rfl, rfl⟩
    go_wp2
    go_ret
    exact ⟨rfl, rfl⟩
  · rw [e]
    clear e
    go_enter Try.func30, Try.ntmps30
    go_wp2_with fail
    refine hL.mono ?_
    rintro e w1 ⟨rfl, rfl⟩
    go_wp2
    go_ret
    exact ⟨rfl, rfl⟩
  · rw [e]
    clear e
    have n0 : ((o : Int) == 0) = false := by simp; omega
    have n1 : ((o : Int) == 1) = false := by simp; omega
    have n8 : ((o : Int) == 8) = false := by simp; omega
    go_enter Try.func30, Try.ntmps30
    go_wp2_with fail
    refine hL.mono ?_
    rintro e w1 ⟨rfl, rfl⟩
    go_wp2
    go_ret
    exact ⟨rfl, rfl⟩

theorem headMark_spec (k : Nat) (h1 : 1 ≤ k) (h7 : k ≤ 7) (w : World) : Calls Try.prog 31 #[.int .i64 (k : Int)] w fun e w' => e = .returned (.int .i64 (hm k : Int)) ∧ w' = w := by
  rcases seven k h1 h7 with rfl | rfl | rfl | rfl | rfl | rfl | rfl <;>
  (go_enter Try.func31, Try.ntmps31; go_wp2; go_ret; exact ⟨rfl, rfl⟩)

theorem cl_test (n c : Nat) (h : n < 68719476736) (h1 : 128 ≤ n) (h2 : 2 ≤ c) (hc : c ≤ clen n) : (((n : Int) / 2 ^ (5 * c + 1)) != 0) = decide (c < clen n) := by
  have h7 := (clen_range n).2
  have e : ((2 : Int) ^ (5 * c + 1)) = ((2 ^ (5 * c + 1) : Nat) : Int) := by simp
  have e2 : ((n : Int) / ((2 ^ (5 * c + 1) : Nat) : Int)) = ((n / 2 ^ (5 * c + 1) : Nat) : Int) := by simp
  have key : n / 2 ^ (5 * c + 1) = 0 ↔ ¬ c < clen n := by
    rw [Nat.div_eq_zero_iff_lt (Nat.two_pow_pos _)]
    unfold clen at *
    rcases seven c (by omega) (by omega) with rfl | rfl | rfl | rfl | rfl | rfl | rfl <;> (repeat' split) <;> simp <;> omega
  rw [e, e2, Bool.eq_iff_iff]
  simp only [bne_iff_ne, ne_eq, decide_eq_true_eq]
  omega

set_option maxRecDepth 20000 in
theorem codedLen_spec (n : Nat) (h : n < 68719476736) (w : World) : Calls Try.prog 32 #[.int .i64 (n : Int)] w fun e w' => e = .returned (.int .i64 (clen n : Int)) ∧ w' = w := by
  by_cases hn : n < 128
  · have e : clen n = 1 := by unfold clen; rw [if_pos hn]
    rw [e]
    go_enter Try.func32, Try.ntmps32
    go_wp2
    go_ret
    exact ⟨rfl, rfl⟩
  · have hr := clen_range n
    have h2 : 2 ≤ clen n := by unfold clen; rw [if_neg hn]; (repeat' split) <;> omega
    have ht := cl_test n
    generalize clen n = cl at *
    go_enter Try.func32, Try.ntmps32
    go_wp2
    go_loop [3] (fun t => ∃ (c : Nat), 2 ≤ c ∧ c ≤ cl ∧ t = .int .i64 (c : Int)) (fun t => cl - (intOf t).toNat)
    case atStart => exact ⟨2, by omega, by omega, rfl⟩
    case round =>
      obtain ⟨c, hc2, hcl, rfl⟩ := hrel
      have hT := ht c h (by omega) hc2 hcl
      clear ht
      by_cases hlt : c < cl
      · rw [decide_eq_true hlt] at hT
        go_wp2
        go_round
        case rel => exact ⟨c + 1, by omega, by omega, by go_num⟩
        case measure => simp [intOf]; omega
      · rw [decide_eq_false hlt] at hT
        obtain rfl : c = cl := by omega
        go_wp2
        go_ret
        exact ⟨rfl, rfl⟩

end Go.Proofs.Ytkbpecckphkhnaa
