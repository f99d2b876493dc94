/- Own text: the document's divides. -/
import Derived.Test.YtpfkaddammfkkaaDoorR9fix
import Derived.Laws.Bits64
import Derived.Laws.BitsAllLaws
namespace Go.Proofs.YtpfkaddammfkkaaDoor
open Go.RowKit
set_option linter.unusedSimpArgs false
set_option linter.unusedVariables false

theorem i64_mask (n : Int) (k : Nat) (hk : k ≤ 62) : bits BinOp.and IntKind.i64 n ((2 ^ k - 1 : Nat) : Int) = n % ((2 ^ k : Nat) : Int) := by
  show IntKind.i64.wrap ((BitVec.ofInt 64 n &&& BitVec.ofInt 64 ((2 ^ k - 1 : Nat) : Int)).toNat : Int) = _
  have h1 : (2 : Nat) ^ k ≤ 2 ^ 62 := Nat.pow_le_pow_right (by decide) hk
  have h0 : 0 < (2 : Nat) ^ k := Nat.two_pow_pos k
  have e62 : (2 : Nat) ^ 62 = 4611686018427387904 := by decide
  have e2 : (BitVec.ofInt 64 ((2 ^ k - 1 : Nat) : Int)).toNat = 2 ^ k - 1 := by
    rw [BitVec.toNat_ofInt]
    have e64 : (2 : Nat) ^ 64 = 18446744073709551616 := by decide
    have : (((2 ^ k - 1 : Nat) : Int) % ((2 ^ 64 : Nat) : Int)) = ((2 ^ k - 1 : Nat) : Int) := Int.emod_eq_of_lt (by omega) (by omega)
    rw [this]; rfl
  rw [BitVec.toNat_and, BitVec.toNat_ofInt, e2, Nat.and_two_pow_sub_one_eq_mod]
  have hd : ((2 ^ k : Nat) : Int) ∣ ((2 ^ 64 : Nat) : Int) := Int.natCast_dvd_natCast.2 (Nat.pow_dvd_pow 2 (by omega))
  have e3 : (((n % ((2 ^ 64 : Nat) : Int)).toNat % 2 ^ k : Nat) : Int) = n % ((2 ^ k : Nat) : Int) := by
    rw [Int.natCast_emod, Int.toNat_of_nonneg (Int.emod_nonneg _ (by decide)), Int.emod_emod_of_dvd _ hd]
  rw [e3]
  have h2 := Int.emod_nonneg n (show ((2 ^ k : Nat) : Int) ≠ 0 by omega)
  have h3 := Int.emod_lt_of_pos n (show (0 : Int) < ((2 ^ k : Nat) : Int) by omega)
  rw [IntKind.wrap_i64]
  omega
theorem dvB_at (l : List Int) (k : Nat) : dvB l k = true ↔ ∀ j, j < l.length → l.getD j 0 % ((2 ^ k : Nat) : Int) = 0 := by
  rw [dvB_iff]
  have e : ((2 ^ k : Nat) : Int) = (2 : Int) ^ k := by simp
  rw [e]
  constructor
  · intro h j hj
    refine h _ ?_
    rw [List.getD_eq_getElem?_getD, List.getElem?_eq_getElem hj]; exact List.getElem_mem hj
  · intro h n hn
    obtain ⟨j, hj, rfl⟩ := List.getElem_of_mem hn
    have := h j hj
    rw [List.getD_eq_getElem?_getD, List.getElem?_eq_getElem hj] at this
    exact this
theorem zerB_at (l : List Int) : zerB l = true ↔ ∀ j, j < l.length → l.getD j 0 = 0 := by
  unfold zerB
  rw [List.all_eq_true]
  constructor
  · intro h j hj
    rw [List.getD_eq_getElem?_getD, List.getElem?_eq_getElem hj]
    simpa using h _ (List.getElem_mem hj)
  · intro h n hn
    obtain ⟨j, hj, rfl⟩ := List.getElem_of_mem hn
    have := h j hj
    rw [List.getD_eq_getElem?_getD, List.getElem?_eq_getElem hj] at this
    simpa using this
set_option maxRecDepth 20000 in
set_option maxHeartbeats 3200000 in
theorem xdiv_spec (l : List Int) (k : Nat) (hk : k ≤ 31) (la : Option Addr) (lc : Nat) (w : World) (hl : IntsAt w la l) : Calls Tryd.prog 41 #[.slice la l.length lc, .int .i64 (k : Int)] w fun e w' => e = .returned (.bool (dvB l k)) ∧ w' = w := by
  have h1 := hl.len
  have HL : Hid (IntsAt w la l) := hl
  have HDT : Hid (dvB l k = true ↔ ∀ j, j < l.length → l.getD j 0 % ((2 ^ k : Nat) : Int) = 0) := dvB_at l k
  have HM : Hid (∀ n : Int, bits BinOp.and IntKind.i64 n ((2 ^ k - 1 : Nat) : Int) = n % ((2 ^ k : Nat) : Int)) := fun n => i64_mask n k (by omega)
  have hp1 : 1 ≤ 2 ^ k := Nat.one_le_two_pow
  have hp2 : 2 ^ k ≤ 2147483648 := Nat.le_trans (Nat.pow_le_pow_right (by decide) hk) (by decide)
  have hpw : (2 : Int) ^ k = ((2 ^ k : Nat) : Int) := by simp
  generalize hN : 2 ^ k = N at *
  have hpm : (N : Int) - 1 = ((N - 1 : Nat) : Int) := by omega
  clear hl hN
  go_enter Tryd.func41, Tryd.ntmps41
  go_wp2_with fail
  go_loopw [5] (fun t wr => ∃ i : Nat, i ≤ l.length ∧ t = .int .i64 (i : Int) ∧ (∀ j, j < i → l.getD j 0 % (N : Int) = 0) ∧ wr = w) (fun t _ => l.length - (intOf t).toNat)
  case atStart => exact ⟨0, Nat.zero_le _, rfl, fun j hj => absurd hj (Nat.not_lt_zero _), rfl⟩
  case round =>
    obtain ⟨i, hi, rfl, hall, rfl⟩ := hrel
    have HA : Hid (∀ j, j < i → l.getD j 0 % (N : Int) = 0) := hall
    clear hall
    by_cases hlt : i < l.length
    · obtain ⟨b1, o1, rfl, q1⟩ := HL.out.at i hlt
      have r1 := q1 wr (Below.refl _ _)
      have hb := HM.out (l.getD i 0)
      clear q1
      have HX : Hid (l.getD i 0 = l.getD i 0) := rfl
      obtain ⟨x, hx⟩ : ∃ x, x = l.getD i 0 := ⟨_, rfl⟩
      have HXE : Hid (x = l.getD i 0) := hx
      rw [← hx] at r1 hb
      clear hx HX
      generalize hrr : x % (N : Int) = rr at *
      have HRR : Hid (x % (N : Int) = rr) := hrr
      clear hrr
      by_cases h0 : rr = 0
      · have hbn : (rr != 0) = false := by rw [bne_eq_false_iff_eq]; exact h0
        have HA2 : Hid (∀ j, j < i + 1 → l.getD j 0 % (N : Int) = 0) := fun j hj => by
          by_cases e : j = i
          · rw [e, ← HXE.out, HRR.out, h0]
          · exact HA.out j (by omega)
        go_wp2_with fail
        go_roundw
        case rel => exact ⟨i + 1, by omega, by go_num, HA2.out, by trivial⟩
        case measure => simp [intOf]; omega
      · have hbn : (rr != 0) = true := by rw [bne_iff_ne]; exact h0
        have HF : Hid (dvB l k = false) := by
          show _ = _
          cases h : dvB l k with
          | false => rfl
          | true =>
            have := HDT.out.1 h i hlt
            rw [← HXE.out, HRR.out] at this
            exact absurd this h0
        go_wp2_with fail
        go_ret
        exact ⟨by rw [HF.out]; rfl, rfl⟩
    · have HF : Hid (dvB l k = true) := HDT.out.2 (fun j hj => HA.out j (by omega))
      go_wp2_with fail
      go_ret
      exact ⟨by rw [HF.out]; rfl, rfl⟩

end Go.Proofs.YtpfkaddammfkkaaDoor
