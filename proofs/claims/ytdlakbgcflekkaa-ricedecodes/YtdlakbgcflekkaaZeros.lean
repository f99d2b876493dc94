/- Own text: how many bits 0 lie ahead, and the walk of the reader's 'zeros'. -/
import Derived.Test.YtdlakbgcflekkaaReader
import Derived.Test.YtdlakbgcflekkaaFolds
import Derived.Laws.MathBits
namespace Go.Proofs.Ytdlakbgcflekkaa
open Go.RowKit
set_option linter.unusedSimpArgs false
set_option linter.unusedVariables false


/-- How many bits 0 stand ahead. -/
def lead (L : List Nat) : Nat := (L.takeWhile (· == 0)).length

theorem lead_le (L : List Nat) : lead L ≤ L.length := by
  unfold lead
  exact (List.takeWhile_sublist _).length_le

theorem lead_cons (x : Nat) (t : List Nat) : lead (x :: t) = if x = 0 then 1 + lead t else 0 := by
  unfold lead
  rw [List.takeWhile_cons]
  by_cases h : x = 0
  · simp [h, Nat.add_comm]
  · simp [h]

theorem lead_append (A B : List Nat) : lead (A ++ B) = if lead A < A.length then lead A else A.length + lead B := by
  induction A with
  | nil => simp [lead]
  | cons x t ih =>
    rw [List.cons_append, lead_cons, lead_cons, ih, List.length_cons]
    by_cases hx : x = 0
    · simp only [hx, if_true]
      by_cases h : lead t < t.length
      · rw [if_pos h, if_pos (by omega)]
      · rw [if_neg h, if_neg (by omega)]; omega
    · simp [hx]

theorem lead_byte_all : ∀ b : Fin 256, ∀ c : Fin 8, lead (bitsOf b.val (8 - c.val)) = min (8 - bitLen (b.val * 2 ^ c.val % 256)) (8 - c.val) := by decide +kernel

theorem lead_byte (b c : Nat) (hb : b < 256) (hc : c < 8) : lead (bitsOf b (8 - c)) = min (8 - bitLen (b * 2 ^ c % 256)) (8 - c) := lead_byte_all ⟨b, hb⟩ ⟨c, hc⟩

theorem sbits_rest (l : List Nat) (b c : Nat) (hb : b < l.length) (hc : c < 8) : (sbits l).drop (8 * b + c) = bitsOf l[b] (8 - c) ++ (sbits l).drop (8 * b + c + (8 - c)) := by
  have h2 : bitsOf l[b] 8 = bitsOf (l[b] / 2 ^ (8 - c)) c ++ bitsOf l[b] (8 - c) := by
    have := bitsOf_add l[b] c (8 - c)
    rwa [show c + (8 - c) = 8 from by omega] at this
  rw [← List.drop_drop, sbits_drop l b hb, h2, List.append_assoc, List.drop_append, List.drop_eq_nil_of_le (by rw [bitsOf_length]; omega), bitsOf_length, Nat.sub_self, List.drop_zero, List.nil_append,
    show 8 * b + c + (8 - c) = 8 * (b + 1) from by omega]

/-- The bits from a place on. -/
def ahead (s : ByteArray) (at_ : Nat) : List Nat := (sbits (bytesOf s)).drop at_

theorem ahead_length (s : ByteArray) (at_ : Nat) : (ahead s at_).length = 8 * s.size - at_ := by
  unfold ahead
  rw [List.length_drop, sbits_length, bytesOf_length]

theorem ahead_byte (s : ByteArray) (b c : Nat) (hb : b < s.size) (hc : c < 8) : ahead s (8 * b + c) = bitsOf (s[b]'hb).toNat (8 - c) ++ ahead s (8 * b + c + (8 - c)) := by
  unfold ahead
  rw [sbits_rest (bytesOf s) b c (by rw [bytesOf_length]; exact hb) hc, bytesOf_get s b hb]

/-- One byte's look. -/
theorem lead_ahead (s : ByteArray) (b c : Nat) (hb : b < s.size) (hc : c < 8) :
    lead (ahead s (8 * b + c)) = if 8 - bitLen ((s[b]'hb).toNat * 2 ^ c % 256) < 8 - c then 8 - bitLen ((s[b]'hb).toNat * 2 ^ c % 256) else (8 - c) + lead (ahead s (8 * b + c + (8 - c))) := by
  rw [ahead_byte s b c hb hc, lead_append, lead_byte _ c (UInt8.toNat_lt _) hc, bitsOf_length]
  by_cases h : 8 - bitLen ((s[b]'hb).toNat * 2 ^ c % 256) < 8 - c
  · rw [if_pos h, if_pos (by omega)]; omega
  · rw [if_neg h, if_neg (by omega)]

set_option maxRecDepth 100000 in
theorem len8_spec (x : Nat) (hx : x < 256) (w : World) : Calls Try.prog 84 #[.int .u8 (x : Int)] w fun e w' => e = .returned (.int .i64 (bitLen x : Int)) ∧ w' = w := by
  go_enter Try.func84, Try.ntmps84
  go_wp2
  go_ret
  refine ⟨ret_int ?_, rfl⟩
  rw [len8tab_get x]
  have := bitLen_le8 x hx
  unfold wrap64
  omega

theorem lz8_spec (x : Nat) (hx : x < 256) (w : World) : Calls Try.prog 83 #[.int .u8 (x : Int)] w fun e w' => e = .returned (.int .i64 ((8 - bitLen x : Nat) : Int)) ∧ w' = w := by
  have hb := bitLen_le8 x hx
  go_enter Try.func83, Try.ntmps83
  go_wp2_with (go_at_call 84; refine (len8_spec x hx w).mono ?_; rintro e w' ⟨rfl, rfl⟩)
  go_ret
  refine ⟨ret_int ?_, rfl⟩
  omega

set_option maxRecDepth 20000 in
set_option maxHeartbeats 800000 in
/-- 'zeros': how many, or some beyond the limit. -/
theorem zeros_spec (q : Nat) (s : ByteArray) (hs : s.size ≤ 1000000000000000000) (at_ : Nat) (ha : at_ ≤ 8 * s.size) (w : World) (h : Rd w q s at_) :
    Calls Try.prog 82 #[.pointer (some ⟨q, 0, none⟩)] w fun e w' => ∃ m : Nat, e = .returned (.int .i64 (m : Int)) ∧ m ≤ lead (ahead s at_) ∧ (m = lead (ahead s at_) ∨ 16777216 < m) ∧ ∃ n, w' = w.drewN n := by
  go_enter Try.func82, Try.ntmps82
  go_wp2
  go_loopw [3] (fun t wr => ∃ (j : Nat), at_ + j ≤ 8 * s.size ∧ t = .int .i64 (j : Int) ∧ lead (ahead s at_) = j + lead (ahead s (at_ + j)) ∧ ∃ n, wr = w.drewN n) (fun t _ => 8 * s.size - (intOf t).toNat)
  case atStart => exact ⟨0, by omega, rfl, by simp, 0, rfl⟩
  case round =>
    obtain ⟨j, hj, rfl, hlead, nd, rfl⟩ := hrel
    have HL : Hid _ := hlead
    clear hlead
    have hR := h.drewN nd
    by_cases h24 : (j : Int) ≤ 16777216
    · by_cases hlt : (j : Int) < 8 * (s.size : Int) - (at_ : Int)
      · obtain ⟨a, hadef⟩ : ∃ a, a = at_ + j := ⟨_, rfl⟩
        obtain ⟨b, c, hbc, hc8⟩ : ∃ b c : Nat, a = 8 * b + c ∧ c < 8 := ⟨a / 8, a % 8, by omega, by omega⟩
        have hand : bits BinOp.and IntKind.i64 ((at_ : Int) + (j : Int)) 7 = (c : Int) := by rw [i64_and7]; omega
        have hdiv : ((at_ : Int) + (j : Int)) / 8 = (b : Int) := by omega
        have hbs : b < s.size := by omega
        have c2 := h.c2
        have HA : Hid _ := hadef
        have HB : Hid _ := hbc
        clear hadef hbc
        go_wp2_with (first | (go_at_call 77; refine (rest_spec q s hs at_ ha _ hR).mono ?_; rintro e w' ⟨rfl, n1, rfl⟩) | (go_at_call 49; refine (passed_spec q s at_ _ (h.drewN _)).mono ?_; rintro e w' ⟨rfl, rfl⟩))
        have ex : (((s[b]'hbs).toNat : Nat) : Int) * 2 ^ (8 - (8 - c)) % 256 = (((s[b]'hbs).toNat * 2 ^ c % 256 : Nat) : Int) := by
          rw [show 8 - (8 - c) = c from by omega]
          simp
        rw [ex]
        have hla := lead_ahead s b c hbs hc8
        obtain ⟨z, hz⟩ : ∃ z, z = 8 - bitLen ((s[b]'hbs).toNat * 2 ^ c % 256) := ⟨_, rfl⟩
        rw [← hz] at hla
        refine (lz8_spec _ (Nat.mod_lt _ (by decide)) _).mono ?_
        rintro e w' ⟨rfl, rfl⟩
        rw [← hz]
        have HLA : Hid _ := hla
        have hz8 : z ≤ 8 := by omega
        clear ex hla hz hand hdiv c2
        by_cases hzc : (z : Int) < 8 - (c : Int)
        · go_wp2
          go_ret
          have e1 := HL.out
          have e2 := HLA.out
          rw [← HA.out, HB.out, e2, if_pos (by omega)] at e1
          refine ⟨j + z, ret_int (by omega), by omega, .inl e1.symm, _, rfl⟩
        · go_wp2
          go_roundw
          case rel =>
            have e1 := HL.out
            have e2 := HLA.out
            have e3 := HA.out
            have e4 := HB.out
            rw [← e3, e4, e2, if_neg (by omega)] at e1
            refine ⟨j + (8 - c), by omega, by go_num, ?_, _, rfl⟩
            rw [e1, show at_ + (j + (8 - c)) = 8 * b + c + (8 - c) from by omega]
            omega
          case measure => simp [intOf]; omega
      · have hd : decide ((j : Int) < 8 * (s.size : Int) - (at_ : Int)) = false := by simp; omega
        go_wp2_with (go_at_call 77; refine (rest_spec q s hs at_ ha _ hR).mono ?_; rintro e w' ⟨rfl, n1, rfl⟩)
        go_ret
        have e1 := HL.out
        have e2 := lead_le (ahead s (at_ + j))
        rw [ahead_length] at e2
        exact ⟨j, rfl, by omega, .inl (by omega), _, rfl⟩
    · go_wp2
      go_ret
      have e1 := HL.out
      exact ⟨j, rfl, by omega, .inr (by omega), _, rfl⟩
end Go.Proofs.Ytdlakbgcflekkaa
