/- Own text: the walks of both writers' Signed, Unary and Rice. -/
import Derived.Test.YtdlakbgcflekkaaRefwrite
import Derived.Test.YtdlakbgcflekkaaAwake
namespace Go.Proofs.Ytdlakbgcflekkaa
open Go.RowKit
set_option linter.unusedSimpArgs false
set_option linter.unusedVariables false


/-- Does n fit in k bits, signed? -/
def fitsP (n k : Int) : Prop := 1 ≤ k ∧ k ≤ 64 ∧ -2 ^ (k - 1).toNat ≤ n ∧ n < 2 ^ (k - 1).toNat

/-- n as an unsigned number of 64 bits. -/
def asU (n : Int) : Nat := (n % 18446744073709551616).toNat

theorem asU_lt (n : Int) : asU n < 18446744073709551616 := by unfold asU; omega
theorem asU_wrap (n : Int) : IntKind.u64.wrap n = (asU n : Int) := by rw [IntKind.wrap_u64]; unfold asU; omega

theorem wsigned_width (p : Nat) (n k : Int) (hk : k < 1 ∨ 64 < k) (w : World) : Calls Try.prog 60 #[.pointer (some ⟨p, 0, none⟩), .int .i64 n, .int .i64 k] w fun e w' => e = .returned (.int .i64 11) ∧ w' = w := by
  rcases hk with hk | hk
  · go_enter Try.func60, Try.ntmps60
    go_wp2
    go_ret
    exact ⟨rfl, rfl⟩
  · go_enter Try.func60, Try.ntmps60
    go_wp2
    go_ret
    exact ⟨rfl, rfl⟩

theorem sign_div (n : Int) (m : Nat) : (n / 2 ^ m = 0 ↔ 0 ≤ n ∧ n < 2 ^ m) ∧ (n / 2 ^ m = -1 ↔ -2 ^ m ≤ n ∧ n < 0) := by
  have hp : 0 < (2 : Int) ^ m := Int.pow_pos (by decide)
  have h1 := Int.emod_nonneg n (Int.ne_of_gt hp)
  have h2 := Int.emod_lt_of_pos n hp
  have h3 := Int.mul_ediv_add_emod n (2 ^ m)
  generalize (2 : Int) ^ m = A at *
  generalize n % A = r at *
  generalize n / A = q at *
  constructor
  · constructor
    · rintro rfl; simp at h3; omega
    · intro ⟨ha, hb⟩
      rcases Int.lt_trichotomy q 0 with h | h | h
      · have : A * q ≤ A * (-1) := Int.mul_le_mul_of_nonneg_left (by omega) (by omega)
        omega
      · exact h
      · have : A * 1 ≤ A * q := Int.mul_le_mul_of_nonneg_left (by omega) (by omega)
        omega
  · constructor
    · rintro rfl; omega
    · intro ⟨ha, hb⟩
      rcases Int.lt_trichotomy q (-1) with h | h | h
      · have : A * q ≤ A * (-2) := Int.mul_le_mul_of_nonneg_left (by omega) (by omega)
        omega
      · exact h
      · have : A * 0 ≤ A * q := Int.mul_le_mul_of_nonneg_left (by omega) (by omega)
        omega

theorem wsigned_bad (p : Nat) (n : Int) (k : Nat) (h1 : 1 ≤ k) (hk : k ≤ 64) (hb : n < -2 ^ (k - 1) ∨ 2 ^ (k - 1) ≤ n) (w : World) :
    Calls Try.prog 60 #[.pointer (some ⟨p, 0, none⟩), .int .i64 n, .int .i64 (k : Int)] w fun e w' => e = .returned (.int .i64 11) ∧ w' = w := by
  have hd := sign_div n (k - 1)
  have hp : 0 < (2 : Int) ^ (k - 1) := Int.pow_pos (by decide)
  have e0 : (n / 2 ^ (k - 1) != 0) = true := by simp only [bne_iff_ne, ne_eq, hd.1]; omega
  have e1 : (n / 2 ^ (k - 1) != -1) = true := by simp only [bne_iff_ne, ne_eq, hd.2]; omega
  clear hd hp hb
  go_enter Try.func60, Try.ntmps60
  go_wp2
  go_ret
  exact ⟨rfl, rfl⟩

theorem wsigned_ok (p : Nat) (n : Int) (k : Nat) (h1 : 1 ≤ k) (hk : k ≤ 64) (hb1 : -2 ^ (k - 1) ≤ n) (hb2 : n < 2 ^ (k - 1)) (w : World) (ao : Option Addr) (B : List Nat) (h01 : Bits01 B) (hB : B.length ≤ 900000000000) (hw : WrB w p ao B) :
    Calls Try.prog 60 #[.pointer (some ⟨p, 0, none⟩), .int .i64 n, .int .i64 (k : Int)] w fun e w' =>
      e = .returned (.int .i64 0) ∧ ∃ ao', WrB w' p ao' (B ++ bitsOf (asU n) k) ∧ Stays (foot p ao) w w' ∧ Moved w.heap.size ao ao' := by
  have hd := sign_div n (k - 1)
  have hwr := asU_wrap n
  by_cases hn : 0 ≤ n
  · have e0 : n / 2 ^ (k - 1) = 0 := hd.1.2 ⟨hn, hb2⟩
    clear hd hb1 hb2
    go_enter Try.func60, Try.ntmps60
    go_wp2_with fail
    refine (put_spec p (asU n) k (asU_lt n) hk w ao B h01 (by omega) hw).mono ?_
    rintro e w' ⟨rfl, ao', h1, h2, h3⟩
    go_wp2
    go_ret
    exact ⟨rfl, ao', h1, h2, h3⟩
  · have e0 : n / 2 ^ (k - 1) = -1 := hd.2.2 ⟨hb1, by omega⟩
    clear hd hb1 hb2
    go_enter Try.func60, Try.ntmps60
    go_wp2_with fail
    refine (put_spec p (asU n) k (asU_lt n) hk w ao B h01 (by omega) hw).mono ?_
    rintro e w' ⟨rfl, ao', h1, h2, h3⟩
    go_wp2
    go_ret
    exact ⟨rfl, ao', h1, h2, h3⟩

theorem fits_out (n k : Int) (hk : k < 1 ∨ 64 < k) (w : World) : Calls Try.prog 62 #[.int .i64 n, .int .i64 k] w fun e w' => e = .returned (.bool false) ∧ w' = w := by
  rcases hk with hk | hk
  · go_enter Try.func62, Try.ntmps62
    go_wp2
    go_ret
    exact ⟨rfl, rfl⟩
  · go_enter Try.func62, Try.ntmps62
    go_wp2
    go_ret
    exact ⟨rfl, rfl⟩

theorem fits_in (n : Int) (h1 : -9223372036854775808 ≤ n) (h2 : n ≤ 9223372036854775807) (k : Nat) (hk1 : 1 ≤ k) (hk : k ≤ 64) (w : World) :
    Calls Try.prog 62 #[.int .i64 n, .int .i64 (k : Int)] w fun e w' => e = .returned (.bool (decide (-2 ^ (k - 1) ≤ n ∧ n < 2 ^ (k - 1)))) ∧ w' = w := by
  by_cases h64 : k = 64
  · subst h64
    go_enter Try.func62, Try.ntmps62
    go_wp2
    go_ret
    refine ⟨ret_bool ?_, rfl⟩
    symm
    rw [decide_eq_true_iff]
    have e : (2 : Int) ^ (64 - 1) = 9223372036854775808 := by decide
    rw [e]
    omega
  · have h62 : (2 : Nat) ^ (k - 1) ≤ 2 ^ 62 := pow_le_of (k - 1) 62 (by omega)
    have hA : (2 : Int) ^ (k - 1) = ((2 ^ (k - 1) : Nat) : Int) := by simp
    obtain ⟨A, hAd⟩ : ∃ A : Nat, A = 2 ^ (k - 1) := ⟨_, rfl⟩
    rw [← hAd] at hA h62
    have hA0 : 0 < A := by rw [hAd]; exact Nat.two_pow_pos _
    have hk64 : (k : Int) < 64 := by omega
    rw [hA]
    clear hAd
    by_cases g1 : -(A : Int) ≤ n
    · by_cases g2 : n ≤ (A : Int) - 1
      · go_enter Try.func62, Try.ntmps62
        go_wp2
        go_ret
        exact ⟨ret_bool (by simp; omega), rfl⟩
      · go_enter Try.func62, Try.ntmps62
        go_wp2
        go_ret
        exact ⟨ret_bool (by simp; omega), rfl⟩
    · go_enter Try.func62, Try.ntmps62
      go_wp2
      go_ret
      exact ⟨ret_bool (by simp; omega), rfl⟩
end Go.Proofs.Ytdlakbgcflekkaa
