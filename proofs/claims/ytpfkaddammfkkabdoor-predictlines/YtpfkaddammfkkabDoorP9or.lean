/- Own text: all numbers laid upon each other, bit by bit: what divides it divides all; its trailing noughts. It speaks of no program. -/
import Derived.Test.YtpfkaddammfkkabDoorP9plain
import Derived.Lib.TrailingZeros
namespace Go.Proofs.YtpfkaddammfkkabDoor
open Go.RowKit
set_option linter.unusedSimpArgs false
set_option linter.unusedVariables false

/-- The first n numbers of l, as 64 bits each, laid upon each other. -/
def orN (l : List Int) : Nat → Nat
  | 0 => 0
  | n + 1 => orN l n ||| (l.getD n 0 % 18446744073709551616).toNat
theorem u64_lt (x : Int) : (x % 18446744073709551616).toNat < 18446744073709551616 := by omega
theorem orN_lt (l : List Int) (n : Nat) : orN l n < 18446744073709551616 := by
  induction n with
  | zero => show 0 < 18446744073709551616; decide
  | succ n ih => exact Nat.or_lt_two_pow (n := 64) ih (u64_lt _)
theorem u64_dv (x : Int) (k : Nat) (hk : k ≤ 64) : (x % 18446744073709551616).toNat % 2 ^ k = 0 ↔ x % ((2 ^ k : Nat) : Int) = 0 := by
  have hd : ((2 ^ k : Nat) : Int) ∣ ((2 ^ 64 : Nat) : Int) := Int.natCast_dvd_natCast.2 (Nat.pow_dvd_pow 2 hk)
  have e : (((x % 18446744073709551616).toNat % 2 ^ k : Nat) : Int) = x % ((2 ^ k : Nat) : Int) := by
    rw [Int.natCast_emod, Int.toNat_of_nonneg (Int.emod_nonneg _ (by decide))]
    exact Int.emod_emod_of_dvd x hd
  rw [← e]
  exact Int.natCast_eq_zero.symm
theorem orN_dv (l : List Int) (k : Nat) (hk : k ≤ 64) (n : Nat) : orN l n % 2 ^ k = 0 ↔ ∀ j, j < n → l.getD j 0 % ((2 ^ k : Nat) : Int) = 0 := by
  induction n with
  | zero => exact ⟨fun _ j hj => absurd hj (Nat.not_lt_zero _), fun _ => Nat.zero_mod _⟩
  | succ n ih =>
    unfold orN
    rw [Nat.or_mod_two_pow, Nat.or_eq_zero_iff, ih, u64_dv _ k hk]
    constructor
    · intro h j hj
      by_cases e : j = n
      · rw [e]; exact h.2
      · exact h.1 j (by omega)
    · intro h
      exact ⟨fun j hj => h j (by omega), h n (by omega)⟩
theorem dvB_or (l : List Int) (k : Nat) (hk : k ≤ 64) : dvB l k = true ↔ orN l l.length % 2 ^ k = 0 := by
  rw [dvB_iff, orN_dv l k hk]
  have e : ((2 ^ k : Nat) : Int) = (2 : Int) ^ k := by simp
  rw [e]
  constructor
  · intro h j hj
    refine h _ ?_
    rw [List.getD_eq_getElem?_getD, List.getElem?_eq_getElem hj]; exact List.getElem_mem hj
  · intro h n hn
    obtain ⟨j, hj, rfl⟩ := List.getElem_of_mem hn
    have := h j hj
    rw [List.getD_eq_getElem?_getD, List.getElem?_eq_getElem hj] at this
    exact this
theorem or_zero (l : List Int) (hr : Rng l) : orN l l.length = 0 ↔ zerB l = true := by
  have h64 := dvB_or l 64 (Nat.le_refl _)
  have hlt := orN_lt l l.length
  have e64 : (2 : Nat) ^ 64 = 18446744073709551616 := by decide
  rw [e64, Nat.mod_eq_of_lt hlt, dvB_iff] at h64
  rw [← h64]
  unfold zerB
  rw [List.all_eq_true]
  have ei : (2 : Int) ^ 64 = 18446744073709551616 := by decide
  constructor
  · intro h n hn
    have h1 := h n hn
    have h2 := hr n hn
    rw [ei] at h1
    have : n = 0 := by omega
    simp [this]
  · intro h n hn
    have h1 : n = 0 := by simpa using h n hn
    rw [h1]; exact Int.zero_emod _
theorem was_zero (l : List Int) (hr : Rng l) (h : orN l l.length = 0) : wasN l = 0 := by
  unfold wasN; rw [if_pos ((or_zero l hr).1 h)]
theorem was_ctz (l : List Int) (hr : Rng l) (h : orN l l.length ≠ 0) : wasN l = min (Go.Lib.ctz 64 (orN l l.length)) 31 := by
  unfold wasN
  rw [if_neg (fun hz => h ((or_zero l hr).2 hz))]
  have hlt := orN_lt l l.length
  obtain ⟨m, hm, hk⟩ := Go.Lib.ctzFrom_spec 64 (orN l l.length) (by omega) hlt
  have hc : Go.Lib.ctz 64 (orN l l.length) = Go.Lib.ctzFrom 64 (orN l l.length) := by unfold Go.Lib.ctz; rw [if_neg h]
  rw [hc]
  have D := fun k hk => dvB_or l k hk
  generalize Go.Lib.ctzFrom 64 (orN l l.length) = c at *
  refine wasK_is l _ 31 (Nat.min_le_right _ _) ?_ ?_
  · rw [D _ (by omega), hm]
    refine Nat.mod_eq_zero_of_dvd (Nat.dvd_trans (Nat.pow_dvd_pow 2 (Nat.min_le_left c 31)) (Nat.dvd_mul_right _ _))
  · by_cases h31 : 31 ≤ c
    · exact Or.inl (by omega)
    · refine Or.inr ?_
      have e : min c 31 = c := by omega
      rw [e]
      cases hb : dvB l (c + 1) with
      | false => rfl
      | true =>
        rw [D _ (by omega), hm, Nat.pow_succ] at hb
        have h2 : 2 ^ c * (2 * m + 1) % (2 ^ c * 2) = 2 ^ c * ((2 * m + 1) % 2) := Nat.mul_mod_mul_left _ _ _
        rw [h2] at hb
        have h3 : 0 < 2 ^ c := Nat.two_pow_pos c
        have h4 : (2 * m + 1) % 2 = 1 := by omega
        rw [h4, Nat.mul_one] at hb
        omega

end Go.Proofs.YtpfkaddammfkkabDoor
