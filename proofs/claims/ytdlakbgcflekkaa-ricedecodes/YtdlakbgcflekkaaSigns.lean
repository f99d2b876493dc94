/- Own text: signed numbers and folded ones, there and back: the walks of both readers' Signed, of unfolded and Unfold. -/
import Derived.Test.YtdlakbgcflekkaaRefread
namespace Go.Proofs.Ytdlakbgcflekkaa
open Go.RowKit
set_option linter.unusedSimpArgs false
set_option linter.unusedVariables false


/-- The number whose folded one u is. -/
def unfoldN (u : Nat) : Int := if u % 2 = 0 then ((u / 2 : Nat) : Int) else -((u / 2 : Nat) : Int) - 1

theorem u64_and1 (u : Nat) (hu : u < 18446744073709551616) : bits BinOp.and IntKind.u64 (u : Int) 1 = ((u % 2 : Nat) : Int) := by
  have := u64_and_nat u 1 hu (by decide)
  rw [nat_mask1] at this
  exact this

theorem i64_xor0 (x : Int) (h1 : -9223372036854775808 ≤ x) (h2 : x ≤ 9223372036854775807) : bits BinOp.xor IntKind.i64 x 0 = x := by
  show IntKind.i64.wrap ((BitVec.ofInt 64 x ^^^ BitVec.ofInt 64 0).toNat : Int) = _
  rw [BitVec.toNat_xor, BitVec.toNat_ofInt, show (BitVec.ofInt 64 0).toNat = 0 from rfl, Nat.xor_zero, IntKind.wrap_i64]
  omega

theorem i64_xor1 (x : Int) (h1 : -9223372036854775808 ≤ x) (h2 : x ≤ 9223372036854775807) : bits BinOp.xor IntKind.i64 x (-1) = -x - 1 := by
  show IntKind.i64.wrap ((BitVec.ofInt 64 x ^^^ BitVec.ofInt 64 (-1)).toNat : Int) = _
  rw [BitVec.toNat_xor, BitVec.toNat_ofInt, show (BitVec.ofInt 64 (-1)).toNat = 18446744073709551615 from rfl, xor_ones _ (by omega), IntKind.wrap_i64]
  omega

theorem refunfold_spec (u : Nat) (hu : u < 18446744073709551616) (w : World) : Calls Try.prog 68 #[.int .u64 (u : Int)] w fun e w' => e = .returned (.int .i64 (unfoldN u)) ∧ w' = w := by
  have ha := u64_and1 u hu
  by_cases h0 : u % 2 = 0
  · have hz : (((u % 2 : Nat) : Int) == 0) = true := by simp; omega
    rw [h0] at ha
    go_enter Try.func68, Try.ntmps68
    go_wp2
    go_ret
    exact ⟨ret_int (by unfold unfoldN; rw [if_pos h0]; omega), rfl⟩
  · have h1 : u % 2 = 1 := by omega
    rw [h1] at ha
    go_enter Try.func68, Try.ntmps68
    go_wp2
    go_ret
    exact ⟨ret_int (by unfold unfoldN; rw [if_neg h0]; omega), rfl⟩

theorem unfolded_spec (u : Nat) (hu : u < 18446744073709551616) (w : World) : Calls Try.prog 80 #[.int .u64 (u : Int)] w fun e w' => e = .returned (.int .i64 (unfoldN u)) ∧ w' = w := by
  have ha := u64_and1 u hu
  by_cases h0 : u % 2 = 0
  · rw [h0] at ha
    go_enter Try.func80, Try.ntmps80
    go_wp2
    go_ret
    refine ⟨ret_int ?_, rfl⟩
    have := i64_xor0 ((u / 2 : Nat) : Int) (by omega) (by omega)
    unfold unfoldN
    rw [if_pos h0]
    simpa using this
  · have h1 : u % 2 = 1 := by omega
    rw [h1] at ha
    go_enter Try.func80, Try.ntmps80
    go_wp2
    go_ret
    refine ⟨ret_int ?_, rfl⟩
    have := i64_xor1 ((u / 2 : Nat) : Int) (by omega) (by omega)
    unfold unfoldN
    rw [if_neg h0]
    simpa using this

/-- Two's complement of k bits. -/
def sgn (u k : Nat) : Int := if 2 ^ (k - 1) ≤ u then (u : Int) - 2 ^ k else (u : Int)

theorem ret_pair {k l : IntKind} {a b c : Int} (h : a = b) : Ending.returned (.tuple #[.int k a, .int l c]) = .returned (.tuple #[.int k b, .int l c]) := by rw [h]

theorem sgn_code (u k : Nat) (h1 : 1 ≤ k) (h2 : k ≤ 64) (hu : u < 2 ^ k) : wrap64 (IntKind.u64.wrap ((u : Int) * 2 ^ (64 - k))) / 2 ^ (64 - k) = sgn u k := by
  obtain ⟨A, hA⟩ : ∃ A, A = (2 : Nat) ^ (64 - k) := ⟨_, rfl⟩
  obtain ⟨H, hH⟩ : ∃ H, H = (2 : Nat) ^ (k - 1) := ⟨_, rfl⟩
  have hA0 : 0 < A := by rw [hA]; exact Nat.two_pow_pos _
  have hHA : H * A = 9223372036854775808 := by rw [hA, hH, ← Nat.pow_add, show k - 1 + (64 - k) = 63 from by omega]
  have hk : (2 : Nat) ^ k = 2 * H := by rw [hH, ← Nat.pow_succ', show (k - 1).succ = k from by omega]
  have ei : (2 : Int) ^ (64 - k) = (A : Int) := by rw [hA]; simp
  have ek : (2 : Int) ^ k = ((2 * H : Nat) : Int) := by rw [← hk]; simp
  have eu : (u : Int) * (A : Int) = ((u * A : Nat) : Int) := by simp
  have hub : u * A < (2 * H) * A := Nat.mul_lt_mul_of_pos_right (by omega) hA0
  rw [Nat.mul_assoc, hHA] at hub
  unfold sgn
  rw [ei, ek, eu, IntKind.wrap_u64, ← hH]
  by_cases hh : H ≤ u
  · rw [if_pos hh]
    have hge : H * A ≤ u * A := Nat.mul_le_mul_right _ hh
    have e1 : wrap64 (((u * A : Nat) : Int) % 18446744073709551616) = ((u : Int) - ((2 * H : Nat) : Int)) * (A : Int) := by
      have e2 : ((u : Int) - ((2 * H : Nat) : Int)) * (A : Int) = ((u * A : Nat) : Int) - ((2 * (H * A) : Nat) : Int) := by
        rw [Int.sub_mul, eu, ← Nat.mul_assoc]
        simp
      rw [e2, hHA]
      unfold wrap64
      omega
    rw [e1, Int.mul_ediv_cancel _ (by omega)]
  · rw [if_neg hh]
    have hlt : u * A < H * A := Nat.mul_lt_mul_of_pos_right (by omega) hA0
    have e1 : wrap64 (((u * A : Nat) : Int) % 18446744073709551616) = (u : Int) * (A : Int) := by
      rw [eu]
      unfold wrap64
      omega
    rw [e1, Int.mul_ediv_cancel _ (by omega)]

theorem sgn_half (u k : Nat) (h1 : 1 ≤ k) (hu : u < 2 ^ k) : (u : Int) / 2 ^ (k - 1) = if 2 ^ (k - 1) ≤ u then 1 else 0 := by
  have hk : (2 : Nat) ^ k = 2 * 2 ^ (k - 1) := by rw [← Nat.pow_succ', show (k - 1).succ = k from by omega]
  rw [div_cast]
  obtain ⟨H, hH⟩ : ∃ H, H = (2 : Nat) ^ (k - 1) := ⟨_, rfl⟩
  have h0 : 0 < H := by rw [hH]; exact Nat.two_pow_pos _
  rw [← hH] at hk ⊢
  by_cases h : H ≤ u
  · rw [if_pos h, Nat.div_eq_of_lt_le (k := 1) (by omega) (by omega)]; rfl
  · rw [if_neg h, Nat.div_eq_of_lt (by omega)]; rfl

theorem signed_width (q : Nat) (k : Int) (hk : k < 1 ∨ 64 < k) (w : World) : Calls Try.prog 76 #[.pointer (some ⟨q, 0, none⟩), .int .i64 k] w fun e w' => e = .returned (.tuple #[.int .i64 0, .int .i64 11]) ∧ w' = w := by
  rcases hk with hk | hk
  · go_enter Try.func76, Try.ntmps76
    go_wp2
    go_ret2
    exact ⟨rfl, rfl⟩
  · go_enter Try.func76, Try.ntmps76
    go_wp2
    go_ret2
    exact ⟨rfl, rfl⟩

theorem signed_end (q : Nat) (s : ByteArray) (hs : s.size ≤ 1000000000000000000) (at_ : Nat) (ha : at_ ≤ 8 * s.size) (k : Nat) (h1 : 1 ≤ k) (hk : k ≤ 64) (he : 8 * s.size < at_ + k) (w : World) (h : Rd w q s at_) :
    Calls Try.prog 76 #[.pointer (some ⟨q, 0, none⟩), .int .i64 (k : Int)] w fun e w' => e = .returned (.tuple #[.int .i64 0, .int .i64 10]) ∧ ∃ n, w' = w.drewN n := by
  go_enter Try.func76, Try.ntmps76
  go_wp2_with (go_at_call 74; refine (get_end q s hs at_ ha k hk he _ h).mono ?_; rintro e w' ⟨rfl, n1, rfl⟩)
  go_ret2
  exact ⟨rfl, _, rfl⟩

theorem signed_ok (q : Nat) (s : ByteArray) (hs : s.size ≤ 1000000000000000000) (at_ : Nat) (k : Nat) (h1 : 1 ≤ k) (hk : k ≤ 64) (he : at_ + k ≤ 8 * s.size) (w : World) (h : Rd w q s at_) :
    Calls Try.prog 76 #[.pointer (some ⟨q, 0, none⟩), .int .i64 (k : Int)] w fun e w' => e = .returned (.tuple #[.int .i64 (sgn (bitsAt s at_ k) k), .int .i64 0]) ∧ Rd w' q s (at_ + k) ∧ Stays (only q) w w' := by
  go_enter Try.func76, Try.ntmps76
  go_wp2_with (go_at_call 74; refine (get_ok q s hs at_ k hk he _ h).mono ?_; rintro e w2 ⟨rfl, hR2, hS2⟩)
  go_ret2
  exact ⟨ret_pair (sgn_code _ k h1 hk (bitsAt_lt s at_ k)), hR2, hS2⟩

theorem refsigned_low (x : Nat) (k : Int) (hk : k < 1) (w : World) : Calls Try.prog 48 #[.pointer (some ⟨x, 0, none⟩), .int .i64 k] w fun e w' => e = .returned (.tuple #[.int .i64 0, .int .i64 11]) ∧ w' = w := by
  go_enter Try.func48, Try.ntmps48
  go_wp2
  go_ret2
  exact ⟨rfl, rfl⟩

theorem refsigned_end (x : Nat) (s : ByteArray) (hs : s.size ≤ 1000000000000000000) (at_ : Nat) (ha : at_ ≤ 8 * s.size) (k : Nat) (h1 : 1 ≤ k) (hk : k ≤ 64) (he : 8 * s.size < at_ + k) (w : World) (h : Rr w x s at_) :
    Calls Try.prog 48 #[.pointer (some ⟨x, 0, none⟩), .int .i64 (k : Int)] w fun e w' => e = .returned (.tuple #[.int .i64 0, .int .i64 10]) ∧ ∃ n, w' = w.drewN n := by
  go_enter Try.func48, Try.ntmps48
  go_wp2_with (go_at_call 46; refine (refget_end x s hs at_ ha k hk he _ h).mono ?_; rintro e w' ⟨rfl, n1, rfl⟩)
  go_ret2
  exact ⟨rfl, _, rfl⟩

theorem refsigned_ok (x : Nat) (s : ByteArray) (hs : s.size ≤ 1000000000000000000) (at_ : Nat) (k : Nat) (h1 : 1 ≤ k) (hk : k ≤ 64) (he : at_ + k ≤ 8 * s.size) (w : World) (h : Rr w x s at_) :
    Calls Try.prog 48 #[.pointer (some ⟨x, 0, none⟩), .int .i64 (k : Int)] w fun e w' => e = .returned (.tuple #[.int .i64 (sgn (bitsAt s at_ k) k), .int .i64 0]) ∧ Rr w' x s (at_ + k) ∧ Stays (only x) w w' := by
  have hlt := bitsAt_lt s at_ k
  have hhalf := sgn_half _ k h1 hlt
  by_cases h64 : k = 64
  · subst h64
    clear hhalf
    have HLT : Hid _ := hlt
    clear hlt
    go_enter Try.func48, Try.ntmps48
    go_wp2_with (go_at_call 46; refine (refget_ok x s hs at_ 64 (by decide) he _ h).mono ?_; rintro e w2 ⟨rfl, hR2, hS2⟩)
    go_ret2
    refine ⟨ret_pair ?_, hR2, hS2⟩
    have e := HLT.out
    generalize bitsAt s at_ 64 = u at e ⊢
    unfold sgn
    split <;> (unfold wrap64; omega)
  · have h63 : (2 : Nat) ^ k ≤ 2 ^ 63 := pow_le_of k 63 (by omega)
    by_cases hh : 2 ^ (k - 1) ≤ bitsAt s at_ k
    · rw [if_pos hh] at hhalf
      have hq : ((bitsAt s at_ k : Int) / 2 ^ (k - 1) == 1) = true := by rw [hhalf]; rfl
      have HLT : Hid _ := hlt
      have HH : Hid _ := hh
      have H63 : Hid _ := h63
      clear hlt hh hhalf h63
      go_enter Try.func48, Try.ntmps48
      go_wp2_with (go_at_call 46; refine (refget_ok x s hs at_ k hk he _ h).mono ?_; rintro e w2 ⟨rfl, hR2, hS2⟩)
      go_ret2
      refine ⟨ret_pair ?_, hR2, hS2⟩
      have e1 := HLT.out
      have e2 := H63.out
      unfold sgn
      rw [if_pos HH.out]
      have ek : (2 : Int) ^ k = ((2 ^ k : Nat) : Int) := by simp
      rw [ek]
      unfold wrap64
      omega
    · rw [if_neg hh] at hhalf
      have hq : ((bitsAt s at_ k : Int) / 2 ^ (k - 1) == 1) = false := by rw [hhalf]; rfl
      have HLT : Hid _ := hlt
      have HH : Hid _ := hh
      have H63 : Hid _ := h63
      clear hlt hh hhalf h63
      go_enter Try.func48, Try.ntmps48
      go_wp2_with (go_at_call 46; refine (refget_ok x s hs at_ k hk he _ h).mono ?_; rintro e w2 ⟨rfl, hR2, hS2⟩)
      go_ret2
      refine ⟨ret_pair ?_, hR2, hS2⟩
      have e1 := HLT.out
      have e2 := H63.out
      unfold sgn
      rw [if_neg HH.out]
      unfold wrap64
      omega
end Go.Proofs.Ytdlakbgcflekkaa
