/- Own text: plain laws of coded numbers: how many bytes one has, its bytes, how one is read, and that what was coded is read as it was. It speaks of no program. -/
import Derived.Test.YtkbpecckphkhnaaPlain
namespace Go.Proofs.Ytkbpecckphkhnaa
open Go.RowKit
set_option linter.unusedSimpArgs false
set_option linter.unusedVariables false

/-- How many bytes a coded number has. -/
def clen (n : Nat) : Nat :=
  if n < 128 then 1 else if n < 2048 then 2 else if n < 65536 then 3 else if n < 2097152 then 4 else if n < 67108864 then 5 else if n < 2147483648 then 6 else 7

/-- The bits 1 at the top of the first of k bytes. -/
def hm (k : Nat) : Nat := if k = 1 then 0 else 256 - 2 ^ (8 - k)

/-- How many bytes a coded number with this first byte has; 0: none begins so. -/
def hc (b : Nat) : Nat :=
  if b < 128 then 1 else if b < 192 then 0 else if b < 224 then 2 else if b < 240 then 3 else if b < 248 then 4 else if b < 252 then 5 else if b < 254 then 6 else if b < 255 then 7 else 0

/-- Past the greatest number of k bytes. -/
def cbound (k : Nat) : Nat := if k = 1 then 128 else 2 ^ (5 * k + 1)

theorem clen_range (n : Nat) : 1 ≤ clen n ∧ clen n ≤ 7 := by unfold clen; (repeat' split) <;> omega

theorem seven (k : Nat) (h1 : 1 ≤ k) (h7 : k ≤ 7) : k = 1 ∨ k = 2 ∨ k = 3 ∨ k = 4 ∨ k = 5 ∨ k = 6 ∨ k = 7 := by omega

theorem clen_le (n k : Nat) (h1 : 1 ≤ k) (h7 : k ≤ 7) (h : n < cbound k) : clen n ≤ k := by
  unfold clen
  rcases seven k h1 h7 with rfl | rfl | rfl | rfl | rfl | rfl | rfl <;> simp [cbound] at h <;> (repeat' split) <;> omega

theorem clen_bound (n : Nat) (h : n < 68719476736) : n < cbound (clen n) := by
  unfold clen
  repeat' split
  all_goals (simp [cbound]; omega)

theorem cbound_le (k : Nat) (h1 : 1 ≤ k) (h7 : k ≤ 7) : cbound k ≤ 68719476736 := by
  rcases seven k h1 h7 with rfl | rfl | rfl | rfl | rfl | rfl | rfl <;> simp [cbound]

/-- Byte j of the k bytes of a coded number. -/
def codeAt (n k j : Nat) : Nat := if j = 0 then hm k + n / 64 ^ (k - 1) else 128 + n / 64 ^ (k - 1 - j) % 64
def codeL (n k : Nat) : List Nat := (List.range k).map (codeAt n k)

theorem codeL_length (n k : Nat) : (codeL n k).length = k := by simp [codeL]

theorem top_lt (n k : Nat) (h1 : 1 ≤ k) (h7 : k ≤ 7) (h : n < cbound k) : n / 64 ^ (k - 1) < (if k = 1 then 128 else 2 ^ (7 - k)) := by
  rcases seven k h1 h7 with rfl | rfl | rfl | rfl | rfl | rfl | rfl <;> simp [cbound] at h ⊢ <;> omega

theorem codeAt_lt (n k j : Nat) (h1 : 1 ≤ k) (h7 : k ≤ 7) (h : n < cbound k) : codeAt n k j < 256 := by
  have ht := top_lt n k h1 h7 h
  unfold codeAt hm
  split
  · rcases seven k h1 h7 with rfl | rfl | rfl | rfl | rfl | rfl | rfl <;> simp at ht ⊢ <;> omega
  · have := Nat.mod_lt (n / 64 ^ (k - 1 - j)) (show 64 > 0 by decide)
    omega

theorem codeL_lt (n k : Nat) (h1 : 1 ≤ k) (h7 : k ≤ 7) (h : n < cbound k) : ∀ b ∈ codeL n k, b < 256 := by
  intro b hb
  obtain ⟨j, _, rfl⟩ := List.mem_map.1 hb
  exact codeAt_lt n k j h1 h7 h

theorem hc_code (n k : Nat) (h1 : 1 ≤ k) (h7 : k ≤ 7) (h : n < cbound k) : hc (codeAt n k 0) = k ∧ codeAt n k 0 - hm k = n / 64 ^ (k - 1) := by
  have ht := top_lt n k h1 h7 h
  have all : ∀ k : Fin 8, ∀ q : Fin 128, 1 ≤ k.val → q.val < (if k.val = 1 then 128 else 2 ^ (7 - k.val)) → hc (hm k.val + q.val) = k.val := by decide +kernel
  have hq : n / 64 ^ (k - 1) < 128 := by
    rcases seven k h1 h7 with rfl | rfl | rfl | rfl | rfl | rfl | rfl <;> simp at ht ⊢ <;> omega
  unfold codeAt
  rw [if_pos rfl]
  exact ⟨all ⟨k, by omega⟩ ⟨n / 64 ^ (k - 1), hq⟩ h1 ht, Nat.add_sub_cancel_left ..⟩

/-- m more bytes, from place i on, behind the number n: the number, or the error. -/
def unc (l : List Nat) : Nat → Nat → Nat → Nat × Nat
  | 0, _, n => (n, 0)
  | m + 1, i, n => if l.length ≤ i then (0, 10) else if l.getD i 0 < 128 ∨ 192 ≤ l.getD i 0 then (0, 2) else unc l m (i + 1) (n * 64 + (l.getD i 0 - 128))

theorem unc_end (l : List Nat) (i n : Nat) : unc l 0 i n = (n, 0) := rfl
theorem unc_short (l : List Nat) (m i n : Nat) (h : l.length ≤ i) : unc l (m + 1) i n = (0, 10) := by unfold unc; rw [if_pos h]
theorem unc_bad (l : List Nat) (m i n : Nat) (h : ¬ l.length ≤ i) (hb : l.getD i 0 < 128 ∨ 192 ≤ l.getD i 0) : unc l (m + 1) i n = (0, 2) := by unfold unc; rw [if_neg h, if_pos hb]
theorem unc_step (l : List Nat) (m i n : Nat) (h : ¬ l.length ≤ i) (hb : ¬ (l.getD i 0 < 128 ∨ 192 ≤ l.getD i 0)) : unc l (m + 1) i n = unc l m (i + 1) (n * 64 + (l.getD i 0 - 128)) := by
  conv => lhs; unfold unc
  rw [if_neg h, if_neg hb]

/-- Behind the first byte: what the bytes say. -/
def uncEnd (k : Nat) (r : Nat × Nat) : Nat × Nat × Nat := if r.2 ≠ 0 then (0, 0, r.2) else if clen r.1 < k then (0, 0, 2) else (r.1, k, 0)

/-- The number with which bytes begin, how many it has, the error. -/
def uncode (l : List Nat) : Nat × Nat × Nat :=
  if l.length = 0 then (0, 0, 10) else if hc (l.getD 0 0) = 0 then (0, 0, 2) else uncEnd (hc (l.getD 0 0)) (unc l (hc (l.getD 0 0) - 1) 1 (l.getD 0 0 - hm (hc (l.getD 0 0))))

theorem unc_read (l : List Nat) (n : Nat) : ∀ (m i : Nat), i + m ≤ l.length → (∀ t, t < m → l.getD (i + t) 0 = 128 + n / 64 ^ (m - 1 - t) % 64) → unc l m i (n / 64 ^ m) = (n, 0) := by
  intro m
  induction m with
  | zero => intro i _ _; simp [unc]
  | succ m ih =>
    intro i hl hb
    have h0 := hb 0 (by omega)
    simp only [Nat.add_zero, Nat.sub_zero, Nat.add_sub_cancel] at h0
    have hmod := Nat.mod_lt (n / 64 ^ m) (show 64 > 0 by decide)
    rw [unc_step l m i _ (by omega) (by rw [h0]; omega), h0]
    have e : n / 64 ^ (m + 1) * 64 + (128 + n / 64 ^ m % 64 - 128) = n / 64 ^ m := by
      rw [Nat.pow_succ, ← Nat.div_div_eq_div_mul]
      omega
    rw [e]
    refine ih (i + 1) (by omega) (fun t ht => ?_)
    have := hb (t + 1) (by omega)
    rw [show i + 1 + t = i + (t + 1) from by omega, this, show m + 1 - 1 - (t + 1) = m - 1 - t from by omega]

theorem code_getD (n k j : Nat) (rest : List Nat) (h : j < k) : (codeL n k ++ rest).getD j 0 = codeAt n k j := by
  rw [List.getD_eq_getElem?_getD, List.getElem?_append_left (by rw [codeL_length]; exact h), List.getElem?_eq_getElem (by rw [codeL_length]; exact h)]
  simp [codeL]

/-- What was coded is read as it was, whatever stands behind. -/
theorem uncode_code (n : Nat) (h : n < 68719476736) (rest : List Nat) : uncode (codeL n (clen n) ++ rest) = (n, clen n, 0) := by
  have hr := clen_range n
  have hb := clen_bound n h
  obtain ⟨k, hk⟩ : ∃ k, k = clen n := ⟨_, rfl⟩
  rw [← hk] at hr hb ⊢
  obtain ⟨e1, e2⟩ := hc_code n k hr.1 hr.2 hb
  unfold uncode
  rw [code_getD n k 0 rest (by omega), e1, e2, if_neg (by rw [List.length_append, codeL_length]; omega), if_neg (by omega)]
  rw [unc_read (codeL n k ++ rest) n (k - 1) 1 (by rw [List.length_append, codeL_length]; omega) (fun t ht => ?_)]
  · unfold uncEnd
    rw [if_neg (by simp), if_neg (by simp [← hk])]
  · rw [code_getD n k (1 + t) rest (by omega)]
    unfold codeAt
    rw [if_neg (by omega), show k - 1 - (1 + t) = k - 1 - 1 - t from by omega]

/-- No coded number is a beginning of another one. -/
theorem code_begins (a b : Nat) (ha : a < 68719476736) (hb : b < 68719476736) (rest : List Nat) (h : codeL b (clen b) = codeL a (clen a) ++ rest) : a = b := by
  have h1 := uncode_code b hb []
  have h2 := uncode_code a ha rest
  rw [← h] at h2
  rw [List.append_nil] at h1
  rw [h1] at h2
  exact (Prod.mk.inj h2).1.symm

theorem hc_range (b : Nat) : hc b ≤ 7 := by unfold hc; (repeat' split) <;> omega
theorem hc_first (b : Nat) (hb : b < 256) (h : hc b ≠ 0) : hm (hc b) ≤ b ∧ (b - hm (hc b) + 1) * 64 ^ (hc b - 1) ≤ cbound (hc b) := by
  have all : ∀ c : Fin 256, hc c.val ≠ 0 → hm (hc c.val) ≤ c.val ∧ (c.val - hm (hc c.val) + 1) * 64 ^ (hc c.val - 1) ≤ cbound (hc c.val) := by decide +kernel
  exact all ⟨b, hb⟩ h

end Go.Proofs.Ytkbpecckphkhnaa
