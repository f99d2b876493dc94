/- Own text: how many bits 0 lie ahead, and the walk of the reader's 'zeros'. -/
import Derived.Test.YtfmpiidnemhijaaDoorReader
import Derived.Test.YtfmpiidnemhijaaDoorFolds
import Derived.Laws.MathBits
namespace Go.Proofs.YtfmpiidnemhijaaDoor
open Go.RowKit
set_option linter.unusedSimpArgs false
set_option linter.unusedVariables false


/-- How many bits 0 stand ahead. -/
def lead (L : List Nat) : Nat := (L.takeWhile (· == 0)).length

theorem lead_le (L : List Nat) : lead L ≤ L.length := by
  unfold lead
  exact (List.takeWhile_sublist _).length_le

theorem lead_cons (x : Nat) (t : List Nat) : lead (x :: t) = if x = 0 then 1 + lead t else 0 := by
  unfold lead
  rw [List.takeWhile_cons]
  by_cases h : x = 0
  · simp [h, Nat.add_comm]
  · simp [h]

theorem lead_append (A B : List Nat) : lead (A ++ B) = if lead A < A.length then lead A else A.length + lead B := by
  induction A with
  | nil => simp [lead]
  | cons x t ih =>
    rw [List.cons_append, lead_cons, lead_cons, ih, List.length_cons]
    by_cases hx : x = 0
    · simp only [hx, if_true]
      by_cases h : lead t < t.length
      · rw [if_pos h, if_pos (by omega)]
      · rw [if_neg h, if_neg (by omega)]; omega
    · simp [hx]

theorem lead_byte_all : ∀ b : Fin 256, ∀ c : Fin 8, lead (bitsOf b.val (8 - c.val)) = min (8 - bitLen (b.val * 2 ^ c.val % 256)) (8 - c.val) := by decide +kernel

theorem lead_byte (b c : Nat) (hb : b < 256) (hc : c < 8) : lead (bitsOf b (8 - c)) = min (8 - bitLen (b * 2 ^ c % 256)) (8 - c) := lead_byte_all ⟨b, hb⟩ ⟨c, hc⟩

theorem sbits_rest (l : List Nat) (b c : Nat) (hb : b < l.length) (hc : c < 8) : (sbits l).drop (8 * b + c) = bitsOf l[b] (8 - c) ++ (sbits l).drop (8 * b + c + (8 - c)) := by
  have h2 : bitsOf l[b] 8 = bitsOf (l[b] / 2 ^ (8 - c)) c ++ bitsOf l[b] (8 - c) := by
    have := bitsOf_add l[b] c (8 - c)
    rwa [show c + (8 - c) = 8 from by omega] at this
  rw [← List.drop_drop, sbits_drop l b hb, h2, List.append_assoc, List.drop_append, List.drop_eq_nil_of_le (by rw [bitsOf_length]; omega), bitsOf_length, Nat.sub_self, List.drop_zero, List.nil_append,
    show 8 * b + c + (8 - c) = 8 * (b + 1) from by omega]

/-- The bits from a place on. -/
def ahead (s : ByteArray) (at_ : Nat) : List Nat := (sbits (bytesOf s)).drop at_

theorem ahead_length (s : ByteArray) (at_ : Nat) : (ahead s at_).length = 8 * s.size - at_ := by
  unfold ahead
  rw [List.length_drop, sbits_length, bytesOf_length]

theorem ahead_byte (s : ByteArray) (b c : Nat) (hb : b < s.size) (hc : c < 8) : ahead s (8 * b + c) = bitsOf (s[b]'hb).toNat (8 - c) ++ ahead s (8 * b + c + (8 - c)) := by
  unfold ahead
  rw [sbits_rest (bytesOf s) b c (by rw [bytesOf_length]; exact hb) hc, bytesOf_get s b hb]

/-- One byte's look. -/
theorem lead_ahead (s : ByteArray) (b c : Nat) (hb : b < s.size) (hc : c < 8) :
    lead (ahead s (8 * b + c)) = if 8 - bitLen ((s[b]'hb).toNat * 2 ^ c % 256) < 8 - c then 8 - bitLen ((s[b]'hb).toNat * 2 ^ c % 256) else (8 - c) + lead (ahead s (8 * b + c + (8 - c))) := by
  rw [ahead_byte s b c hb hc, lead_append, lead_byte _ c (UInt8.toNat_lt _) hc, bitsOf_length]
  by_cases h : 8 - bitLen ((s[b]'hb).toNat * 2 ^ c % 256) < 8 - c
  · rw [if_pos h, if_pos (by omega)]; omega
  · rw [if_neg h, if_neg (by omega)]

end Go.Proofs.YtfmpiidnemhijaaDoor
