/- Own text: packed and unpacked, the plain laws. -/
import Derived.Test.YtolmijpecomkcaaP5unpack
namespace Go.Proofs.Ytolmijpecomkcaa
open Go.RowKit
set_option linter.unusedSimpArgs false
set_option linter.unusedVariables false

theorem chunk {α : Type} (f : Nat → List α) (L : Nat) (hL : ∀ j, (f j).length = L) : ∀ n j, j < n → (((List.range n).flatMap f).drop (j * L)).take L = f j := by
  have hlen : ∀ n, ((List.range n).flatMap f).length = n * L := fun n => by
    induction n with
    | zero => simp
    | succ n ih => rw [List.range_succ, List.flatMap_append, List.length_append, ih, Nat.succ_mul]; simp [hL]
  intro n
  induction n with
  | zero => exact fun j hj => absurd hj (Nat.not_lt_zero _)
  | succ n ih =>
    intro j hj
    rw [List.range_succ, List.flatMap_append]
    by_cases e : j = n
    · subst e
      rw [List.drop_append_of_le_length (by rw [hlen]; exact Nat.le_refl _), List.drop_of_length_le (by rw [hlen]; exact Nat.le_refl _)]
      simp only [List.flatMap_cons, List.flatMap_nil, List.append_nil, List.nil_append]
      exact List.take_of_length_le (by rw [hL]; exact Nat.le_refl _)
    · have hjn : j < n := by omega
      have h1 : (j + 1) * L ≤ n * L := Nat.mul_le_mul_right _ (by omega)
      rw [Nat.succ_mul] at h1
      rw [List.drop_append_of_le_length (by rw [hlen]; omega), List.take_append_of_le_length (by rw [List.length_drop, hlen]; omega)]
      exact ih j hjn

/-- A sample's code, read. -/
theorem decN_codeN (wd : Int) (uns : Bool) (n : Int) (h4 : 4 ≤ wd) (h32 : wd ≤ 32) (hs : sampB n wd = true) : decN wd uns (codeN wd uns n).toNat = n := by
  obtain ⟨n1, n2, n3, n4⟩ := nby_range wd h4 h32
  obtain ⟨g1, g2, g3⟩ := codeN_fits wd uns n h4 h32 hs
  have hs' := of_decide_eq_true hs
  have hkw : (wd - 1).toNat = wd.toNat - 1 := by omega
  have hp : (2 : Nat) ^ (wd.toNat - 1) ≤ 2 ^ (8 * nby wd - 1) := Nat.pow_le_pow_right (by decide) (by omega)
  have hd : (2 : Nat) ^ (8 * nby wd) = 2 * 2 ^ (8 * nby wd - 1) := by
    rw [← Nat.pow_succ']
    congr 1
    omega
  rw [hkw, pow_eq] at hs'
  unfold decN
  have hc : ((codeN wd uns n).toNat : Int) = codeN wd uns n := by omega
  rw [hc]
  unfold codeN at *
  rw [hkw, pow_eq] at *
  rw [pow_eq (8 * nby wd), pow_eq (8 * nby wd - 1), hd] at *
  generalize (2 : Nat) ^ (wd.toNat - 1) = H at *
  generalize (2 : Nat) ^ (8 * nby wd - 1) = G at *
  cases uns
  · simp only [Bool.false_eq_true, if_false] at *
    split <;> split <;> omega
  · simp only [if_true] at *
    omega

theorem highL_low (m k : Nat) : (lowL m k).reverse = highL m k := by rw [← lowL_reverse, List.reverse_reverse]

/-- How many of the first i numbers stand in plane k. -/
def cntN (ch i k : Nat) : Nat := i / ch + (if k < i % ch then 1 else 0)
theorem cnt_succ (ch i k : Nat) (h0 : 0 < ch) (hk : k < ch) : cntN ch (i + 1) k = cntN ch i k + (if i % ch = k then 1 else 0) := by
  unfold cntN
  have h1 := Nat.div_add_mod i ch
  have h2 := Nat.div_add_mod (i + 1) ch
  have h3 := Nat.mod_lt i h0
  have h4 := Nat.mod_lt (i + 1) h0
  by_cases e : i % ch + 1 < ch
  · have e1 : (i + 1) / ch = i / ch := by
      rw [← h1]
      have : ch * (i / ch) + i % ch + 1 = ch * (i / ch) + (i % ch + 1) := by omega
      rw [this, Nat.mul_add_div h0, Nat.mul_add_div h0, Nat.div_eq_of_lt e, Nat.div_eq_of_lt h3]
    have e2 : (i + 1) % ch = i % ch + 1 := by rw [e1] at h2; omega
    rw [e1, e2]
    split <;> split <;> split <;> omega
  · have e0 : i % ch + 1 = ch := by omega
    have e1 : (i + 1) / ch = i / ch + 1 := by
      have : i + 1 = ch * (i / ch + 1) := by rw [Nat.mul_add, Nat.mul_one]; omega
      rw [this, Nat.mul_div_cancel_left _ h0]
    have e2 : (i + 1) % ch = 0 := by
      have : i + 1 = ch * (i / ch + 1) := by rw [Nat.mul_add, Nat.mul_one]; omega
      rw [this, Nat.mul_mod_right]
    rw [e1, e2]
    split <;> split <;> split <;> omega
/-- The planes, number by number. -/
theorem upL_at (s : ByteArray) (wd : Int) (big uns : Bool) (ch : Nat) (h0 : 0 < ch) : ∀ i k, k < ch → (upL s wd big uns ch i).getD k [] = (List.range (cntN ch i k)).map fun q => numI s wd big uns (q * ch + k)
  | 0, k, hk => by
    have e : cntN ch 0 k = 0 := by simp [cntN]
    rw [e]
    simp [upL, List.getD_eq_getElem?_getD, hk]
  | i + 1, k, hk => by
    have hl := upL_length s wd big uns ch i
    have ih := upL_at s wd big uns ch h0 i
    rw [upL, cnt_succ ch i k h0 hk]
    by_cases e : i % ch = k
    · have hc : cntN ch i k = i / ch := by
        unfold cntN
        rw [e, if_neg (Nat.lt_irrefl _), Nat.add_zero]
      have hik : i / ch * ch + k = i := by
        rw [← e]
        exact Nat.div_add_mod' i ch
      rw [if_pos e, e, getD_set_eq _ _ _ _ (by omega), ih k hk, hc, List.range_succ, List.map_append, List.map_singleton, hik]
    · rw [if_neg e, Nat.add_zero, getD_set_ne _ _ _ _ _ e]
      exact ih k hk
theorem upL_full (s : ByteArray) (wd : Int) (big uns : Bool) (ch n : Nat) (h0 : 0 < ch) (k : Nat) (hk : k < ch) : (upL s wd big uns ch (n * ch)).getD k [] = (List.range n).map fun q => numI s wd big uns (q * ch + k) := by
  rw [upL_at s wd big uns ch h0 _ k hk]
  have : cntN ch (n * ch) k = n := by
    unfold cntN
    rw [Nat.mul_div_cancel _ h0, Nat.mul_mod_left, if_neg (Nat.not_lt_zero _), Nat.add_zero]
  rw [this]

end Go.Proofs.Ytolmijpecomkcaa
