/- Own text. -/
import Derived.Laws.MathBits
import Derived.Test.YtfpfabmbipmipaaGreatDoorA4
import Derived.Deep.OwnRows
set_option linter.unusedSimpArgs false
set_option linter.unusedVariables false
set_option maxRecDepth 20000
set_option maxHeartbeats 12800000
namespace Go.Proofs.YtfpfabmbipmipaaGreatDoor
open Go.RowKit
def lead (L : List Nat) : Nat := (L.takeWhile (· == 0)).length
theorem lead_le (L : List Nat) : lead L <= L.length := by
 unfold lead
 exact (List.takeWhile_sublist _).length_le
theorem lead_cons (x : Nat) (t : List Nat) : lead (x :: t) = if x = 0 then 1 + lead t else 0 := by
 unfold lead
 rw [List.takeWhile_cons]
 by_cases h : x = 0
 ·simp [h, Nat.add_comm]
 ·simp [h]
theorem lead_append (A B : List Nat) : lead (A ++ B) = if lead A < A.length then lead A else A.length + lead B := by
 induction A with
 | nil => simp [lead]
 | cons x t ih =>
  rw [List.cons_append, lead_cons, lead_cons, ih, List.length_cons]
  by_cases hx : x = 0
  ·simp only [hx, if_true]
   by_cases h : lead t < t.length
   ·rw [if_pos h, if_pos (by omega)]
   ·rw [if_neg h, if_neg (by omega)]; omega
  ·simp [hx]
theorem lead_byte_all : ∀ b : Fin 256, ∀ c : Fin 8, lead (bitsOf b.val (8 - c.val)) = min (8 - bitLen (b.val * 2 ^ c.val % 256)) (8 - c.val) := by decide +kernel
theorem lead_byte (b c : Nat) (hb : b < 256) (hc : c < 8) : lead (bitsOf b (8 - c)) = min (8 - bitLen (b * 2 ^ c % 256)) (8 - c) := lead_byte_all ⟨b, hb⟩ ⟨c, hc⟩
theorem sbits_rest (l : List Nat) (b c : Nat) (hb : b < l.length) (hc : c < 8) : (sbits l).drop (8 * b + c) = bitsOf l[b] (8 - c) ++ (sbits l).drop (8 * b + c + (8 - c)) := by
 have h2 : bitsOf l[b] 8 = bitsOf (l[b] / 2 ^ (8 - c)) c ++ bitsOf l[b] (8 - c) := by
  have := bitsOf_add l[b] c (8 - c)
  rwa [show c + (8 - c) = 8 from by omega] at this
 rw [<- List.drop_drop, sbits_drop l b hb, h2, List.append_assoc, List.drop_append, List.drop_eq_nil_of_le (by rw [bitsOf_length]; omega), bitsOf_length, Nat.sub_self, List.drop_zero, List.nil_append,
  show 8 * b + c + (8 - c) = 8 * (b + 1) from by omega]
def ahead (s : ByteArray) (at_ : Nat) : List Nat := (sbits (bytesOf s)).drop at_
theorem ahead_length (s : ByteArray) (at_ : Nat) : (ahead s at_).length = 8 * s.size - at_ := by
 unfold ahead
 rw [List.length_drop, sbits_length, bytesOf_length]
theorem ahead_byte (s : ByteArray) (b c : Nat) (hb : b < s.size) (hc : c < 8) : ahead s (8 * b + c) = bitsOf (s[b]'hb).toNat (8 - c) ++ ahead s (8 * b + c + (8 - c)) := by
 unfold ahead
 rw [sbits_rest (bytesOf s) b c (by rw [bytesOf_length]; exact hb) hc, bytesOf_get s b hb]
theorem lead_ahead (s : ByteArray) (b c : Nat) (hb : b < s.size) (hc : c < 8) :
  lead (ahead s (8 * b + c)) = if 8 - bitLen ((s[b]'hb).toNat * 2 ^ c % 256) < 8 - c then 8 - bitLen ((s[b]'hb).toNat * 2 ^ c % 256) else (8 - c) + lead (ahead s (8 * b + c + (8 - c))) := by
 rw [ahead_byte s b c hb hc, lead_append, lead_byte _ c (UInt8.toNat_lt _) hc, bitsOf_length]
 by_cases h : 8 - bitLen ((s[b]'hb).toNat * 2 ^ c % 256) < 8 - c
 ·rw [if_pos h, if_pos (by omega)]; omega
 ·rw [if_neg h, if_neg (by omega)]
set_option maxRecDepth 100000 in
theorem len8_spec (x : Nat) (hx : x < 256) (w : World) : Calls Tryz.prog 218 #[.int .u8 (x : Int)] w fun e w' => e = .returned (.int .i64 (bitLen x : Int)) /\ w' = w := by
 go_enter Tryz.func218, Tryz.ntmps218
 go_wp2
 go_ret
 refine ⟨ret_int ?_, rfl⟩
 rw [len8tab_get x]
 have := bitLen_le8 x hx
 unfold wrap64
 omega
theorem lz8_spec (x : Nat) (hx : x < 256) (w : World) : Calls Tryz.prog 197 #[.int .u8 (x : Int)] w fun e w' => e = .returned (.int .i64 ((8 - bitLen x : Nat) : Int)) /\ w' = w := by
 have hb := bitLen_le8 x hx
 go_enter Tryz.func197, Tryz.ntmps197
 go_wp2_with (go_at_call 218; refine (len8_spec x hx w).mono ?_; rintro e w' ⟨rfl, rfl⟩)
 go_ret
 refine ⟨ret_int ?_, rfl⟩
 omega
theorem zeros_spec (q : Nat) (s : ByteArray) (hs : s.size <= 1000000000000000000) (at_ : Nat) (ha : at_ <= 8 * s.size) (w : World) (h : Rd w q s at_) :
  Calls Tryz.prog 219 #[.pointer (some ⟨q, 0, none⟩)] w fun e w' => ∃ m : Nat, e = .returned (.int .i64 (m : Int)) /\ m <= lead (ahead s at_) /\ (m = lead (ahead s at_) ∨ 16777216 < m) /\ ∃ n, w' = w.drewN n := by
 go_enter Tryz.func219, Tryz.ntmps219
 go_wp2
 go_loopw [3] (fun t wr => ∃ (j : Nat), at_ + j <= 8 * s.size /\ t = .int .i64 (j : Int) /\ lead (ahead s at_) = j + lead (ahead s (at_ + j)) /\ ∃ n, wr = w.drewN n) (fun t _ => 8 * s.size - (intOf t).toNat)
 case atStart => exact ⟨0, by omega, rfl, by simp, 0, rfl⟩
 case round =>
  obtain ⟨j, hj, rfl, hlead, nd, rfl⟩ := hrel
  have HL : Hid _ := hlead
  clear hlead
  have hR := h.drewN nd
  by_cases h24 : (j : Int) <= 16777216
  ·by_cases hlt : (j : Int) < 8 * (s.size : Int) - (at_ : Int)
   ·obtain ⟨a, hadef⟩ : ∃ a, a = at_ + j := ⟨_, rfl⟩
    obtain ⟨b, c, hbc, hc8⟩ : ∃ b c : Nat, a = 8 * b + c /\ c < 8 := ⟨a / 8, a % 8, by omega, by omega⟩
    have hand : bits BinOp.and IntKind.i64 ((at_ : Int) + (j : Int)) 7 = (c : Int) := by rw [i64_and7]; omega
    have hdiv : ((at_ : Int) + (j : Int)) / 8 = (b : Int) := by omega
    have hbs : b < s.size := by omega
    have c2 := h.c2
    have HA : Hid _ := hadef
    have HB : Hid _ := hbc
    clear hadef hbc
    go_wp2_with (first | (go_at_call 174; refine (rest_spec q s hs at_ ha _ hR).mono ?_; rintro e w' ⟨rfl, n1, rfl⟩) | (go_at_call 105; refine (passed_spec q s at_ _ (h.drewN _)).mono ?_; rintro e w' ⟨rfl, rfl⟩))
    have ex : (((s[b]'hbs).toNat : Nat) : Int) * 2 ^ (8 - (8 - c)) % 256 = (((s[b]'hbs).toNat * 2 ^ c % 256 : Nat) : Int) := by
     rw [show 8 - (8 - c) = c from by omega]
     simp
    rw [ex]
    have hla := lead_ahead s b c hbs hc8
    obtain ⟨z, hz⟩ : ∃ z, z = 8 - bitLen ((s[b]'hbs).toNat * 2 ^ c % 256) := ⟨_, rfl⟩
    rw [<- hz] at hla
    refine (lz8_spec _ (Nat.mod_lt _ (by decide)) _).mono ?_
    rintro e w' ⟨rfl, rfl⟩
    rw [<- hz]
    have HLA : Hid _ := hla
    have hz8 : z <= 8 := by omega
    clear ex hla hz hand hdiv c2
    by_cases hzc : (z : Int) < 8 - (c : Int)
    ·go_wp2
     go_ret
     have e1 := HL.out
     have e2 := HLA.out
     rw [<- HA.out, HB.out, e2, if_pos (by omega)] at e1
     refine ⟨j + z, ret_int (by omega), by omega, .inl e1.symm, _, rfl⟩
    ·go_wp2
     go_roundw
     case rel =>
      have e1 := HL.out
      have e2 := HLA.out
      have e3 := HA.out
      have e4 := HB.out
      rw [<- e3, e4, e2, if_neg (by omega)] at e1
      refine ⟨j + (8 - c), by omega, by go_num, ?_, _, rfl⟩
      rw [e1, show at_ + (j + (8 - c)) = 8 * b + c + (8 - c) from by omega]
      omega
     case measure => simp [intOf]; omega
   ·have hd : decide ((j : Int) < 8 * (s.size : Int) - (at_ : Int)) = false := by simp; omega
    go_wp2_with (go_at_call 174; refine (rest_spec q s hs at_ ha _ hR).mono ?_; rintro e w' ⟨rfl, n1, rfl⟩)
    go_ret
    have e1 := HL.out
    have e2 := lead_le (ahead s (at_ + j))
    rw [ahead_length] at e2
    exact ⟨j, rfl, by omega, .inl (by omega), _, rfl⟩
  ·go_wp2
   go_ret
   have e1 := HL.out
   exact ⟨j, rfl, by omega, .inr (by omega), _, rfl⟩
theorem get_width (q : Nat) (k : Int) (hk : k < 0 ∨ 64 < k) (w : World) : Calls Tryz.prog 139 #[.pointer (some ⟨q, 0, none⟩), .int .i64 k] w fun e w' => e = .returned (.tuple #[.int .u64 0, .int .i64 11]) /\ w' = w := by
 rcases hk with hk | hk
 ·go_enter Tryz.func139, Tryz.ntmps139
  go_wp2
  go_ret2
  exact ⟨rfl, rfl⟩
 ·go_enter Tryz.func139, Tryz.ntmps139
  go_wp2
  go_ret2
  exact ⟨rfl, rfl⟩
theorem get_end (q : Nat) (s : ByteArray) (hs : s.size <= 1000000000000000000) (at_ : Nat) (ha : at_ <= 8 * s.size) (k : Nat) (hk : k <= 64) (he : 8 * s.size < at_ + k) (w : World) (h : Rd w q s at_) :
  Calls Tryz.prog 139 #[.pointer (some ⟨q, 0, none⟩), .int .i64 (k : Int)] w fun e w' => e = .returned (.tuple #[.int .u64 0, .int .i64 10]) /\ ∃ n, w' = w.drewN n := by
 go_enter Tryz.func139, Tryz.ntmps139
 go_wp2_with (go_at_call 174; refine (rest_spec q s hs at_ ha _ h).mono ?_; rintro e w' ⟨rfl, n1, rfl⟩)
 go_ret2
 exact ⟨rfl, _, rfl⟩
theorem get_ok (q : Nat) (s : ByteArray) (hs : s.size <= 1000000000000000000) (at_ : Nat) (k : Nat) (hk : k <= 64) (he : at_ + k <= 8 * s.size) (w : World) (h : Rd w q s at_) :
  Calls Tryz.prog 139 #[.pointer (some ⟨q, 0, none⟩), .int .i64 (k : Int)] w fun e w' => e = .returned (.tuple #[.int .u64 (bitsAt s at_ k : Int), .int .i64 0]) /\ Rd w' q s (at_ + k) /\ Stays (only q) w w' := by
 go_enter Tryz.func139, Tryz.ntmps139
 go_wp2_with (first | (go_at_call 174; refine (rest_spec q s hs at_ (by omega) _ h).mono ?_; rintro e w' ⟨rfl, n1, rfl⟩) | (go_at_call 144; refine (take_spec q s hs at_ k he hk _ (h.drewN _)).mono ?_; rintro e w2 ⟨rfl, hR2, hS2⟩))
 go_ret2
 exact ⟨rfl, hR2, ((Stays.refl _ _).drewN n1).trans hS2 (fun _ _ h => h)⟩
theorem runary_width (q : Nat) (s : ByteArray) (hs : s.size <= 1000000000000000000) (at_ : Nat) (ha : at_ <= 8 * s.size) (hl : 16777216 < lead (ahead s at_)) (w : World) (h : Rd w q s at_) :
  Calls Tryz.prog 198 #[.pointer (some ⟨q, 0, none⟩)] w fun e w' => e = .returned (.tuple #[.int .i64 0, .int .i64 11]) /\ ∃ n, w' = w.drewN n := by
 go_enter Tryz.func198, Tryz.ntmps198
 go_wp2_with (go_at_call 219; refine (zeros_spec q s hs at_ ha _ h).mono ?_; rintro e w' ⟨m, rfl, hm1, hm2, n1, rfl⟩; have hm : 16777216 < m := (by omega); clear hm1 hm2)
 go_ret2
 exact ⟨rfl, _, rfl⟩
theorem runary_end (q : Nat) (s : ByteArray) (hs : s.size <= 1000000000000000000) (at_ : Nat) (ha : at_ <= 8 * s.size) (hl : lead (ahead s at_) <= 16777216) (he : lead (ahead s at_) = 8 * s.size - at_) (w : World) (h : Rd w q s at_) :
  Calls Tryz.prog 198 #[.pointer (some ⟨q, 0, none⟩)] w fun e w' => e = .returned (.tuple #[.int .i64 0, .int .i64 10]) /\ ∃ n, w' = w.drewN n := by
 go_enter Tryz.func198, Tryz.ntmps198
 go_wp2_with (first | (go_at_call 219; refine (zeros_spec q s hs at_ ha _ h).mono ?_; rintro e w' ⟨m, rfl, hm1, hm2, n1, rfl⟩; have hm : ((m : Int) == 8 * (s.size : Int) - (at_ : Int)) = true := (by simp; omega); have hm3 : m <= 16777216 := (by omega); clear hm1 hm2 hl he) | (go_at_call 174; refine (rest_spec q s hs at_ ha _ (h.drewN _)).mono ?_; rintro e w' ⟨rfl, n2, rfl⟩))
 go_ret2
 exact ⟨rfl, _, rfl⟩
theorem runary_ok (q : Nat) (s : ByteArray) (hs : s.size <= 1000000000000000000) (at_ : Nat) (ha : at_ <= 8 * s.size) (z : Nat) (hz : lead (ahead s at_) = z) (hl : z <= 16777216) (he : z < 8 * s.size - at_) (w : World) (h : Rd w q s at_) :
  Calls Tryz.prog 198 #[.pointer (some ⟨q, 0, none⟩)] w fun e w' => e = .returned (.tuple #[.int .i64 (z : Int), .int .i64 0]) /\ Rd w' q s (at_ + z + 1) /\ Stays (only q) w w' := by
 have HZ : Hid _ := hz
 clear hz
 have hne : ((z : Int) == 8 * (s.size : Int) - (at_ : Int)) = false := by simp; omega
 go_enter Tryz.func198, Tryz.ntmps198
 go_wp2_with (first | (go_at_call 219; refine (zeros_spec q s hs at_ ha _ h).mono ?_; rintro e w' ⟨m, rfl, hm1, hm2, n1, rfl⟩; rw [HZ.out] at hm1 hm2; obtain rfl : m = z := (by omega); clear hm1 hm2) | (go_at_call 174; refine (rest_spec q s hs at_ ha _ (h.drewN _)).mono ?_; rintro e w' ⟨rfl, n2, rfl⟩))
 rw [show (m : Int) + 1 = ((m + 1 : Nat) : Int) from by omega]
 refine (pass_spec q s hs at_ (m + 1) (by omega) _ (h.drewN _)).mono ?_
 rintro e w2 ⟨rfl, hR2, hS2⟩
 go_wp2
 go_ret2
 exact ⟨rfl, hR2, ((Stays.refl _ _).drewN _).trans hS2 (fun _ _ h => h)⟩
theorem WrB.only {w w' : World} {p q : Nat} {ao : OA} {B : List Nat} (h : WrB w p ao B) (hS : Stays (only q) w w') (hp : p ≠ q) (hb : ∀ b, blockOf ao = some b -> b ≠ q) : WrB w' p ao B :=
 h.stays hS hp hb
theorem WrB.below {w w' : World} {p : Nat} {ao : OA} {B : List Nat} (h : WrB w p ao B) (hS : Lo w w') : WrB w' p ao B :=
 h.stays (Stays.of_below hS (fun _ => False)) (fun h => h) (fun _ _ h => h)
theorem Rd.below {w w' : World} {q : Nat} {s : ByteArray} {a : Nat} (h : Rd w q s a) (hS : Lo w w') : Rd w' q s a :=
 h.stays (Stays.of_below hS (fun _ => False)) (fun h => h)
theorem one_int (k : IntKind) (n : Int) : ∀ u ∈ [Value.int k n], u.oneCell' = true := by intro u hu; simp at hu; subst hu; rfl
def asU (n : Int) : Nat := (n % 18446744073709551616).toNat
theorem asU_lt (n : Int) : asU n < 18446744073709551616 := by unfold asU; omega
theorem asU_wrap (n : Int) : IntKind.u64.wrap n = (asU n : Int) := by rw [IntKind.wrap_u64]; unfold asU; omega
theorem wunary_bad (p : Nat) (n : Int) (hn : n < 0 ∨ 16777216 < n) (w : World) : Calls Tryz.prog 156 #[.pointer (some ⟨p, 0, none⟩), .int .i64 n] w fun e w' => e = .returned (.int .i64 11) /\ w' = w := by
 rcases hn with hn | hn
 ·go_enter Tryz.func156, Tryz.ntmps156
  go_wp2
  go_ret
  exact ⟨rfl, rfl⟩
 ·go_enter Tryz.func156, Tryz.ntmps156
  go_wp2
  go_ret
  exact ⟨rfl, rfl⟩
theorem wunary_ok (p n : Nat) (hn : n <= 16777216) (w : World) (ao : OA) (B : List Nat) (h01 : Bits01 B) (hB : B.length <= 9000000000000) (hw : WrB w p ao B) :
  Calls Tryz.prog 156 #[.pointer (some ⟨p, 0, none⟩), .int .i64 (n : Int)] w fun e w' =>
   e = .returned (.int .i64 0) /\ ∃ ao', WrB w' p ao' (B ++ List.replicate n 0 ++ [1]) /\ Stays (foot p ao) w w' /\ Moved w.heap.size ao ao' := by
 go_enter Tryz.func156, Tryz.ntmps156
 go_wp2_with (go_at_call 186; refine (unary_spec p n hn w ao B h01 hB hw).mono ?_; rintro e w' ⟨rfl, ao', h1, h2, h3⟩)
 go_ret
 exact ⟨rfl, ao', h1, h2, h3⟩
theorem wsigned_width (p : Nat) (n k : Int) (hk : k < 1 ∨ 64 < k) (w : World) : Calls Tryz.prog 187 #[.pointer (some ⟨p, 0, none⟩), .int .i64 n, .int .i64 k] w fun e w' => e = .returned (.int .i64 11) /\ w' = w := by
 rcases hk with hk | hk
 ·go_enter Tryz.func187, Tryz.ntmps187
  go_wp2
  go_ret
  exact ⟨rfl, rfl⟩
 ·go_enter Tryz.func187, Tryz.ntmps187
  go_wp2
  go_ret
  exact ⟨rfl, rfl⟩
theorem sign_div (n : Int) (m : Nat) : (n / 2 ^ m = 0 ↔ 0 <= n /\ n < 2 ^ m) /\ (n / 2 ^ m = -1 ↔ -2 ^ m <= n /\ n < 0) := by
 have hp : 0 < (2 : Int) ^ m := Int.pow_pos (by decide)
 have h1 := Int.emod_nonneg n (Int.ne_of_gt hp)
 have h2 := Int.emod_lt_of_pos n hp
 have h3 := Int.mul_ediv_add_emod n (2 ^ m)
 generalize (2 : Int) ^ m = A at *
 generalize n % A = r at *
 generalize n / A = q at *
 constructor
 ·constructor
  ·rintro rfl; simp at h3; omega
  ·intro ⟨ha, hb⟩
   rcases Int.lt_trichotomy q 0 with h | h | h
   ·have : A * q <= A * (-1) := Int.mul_le_mul_of_nonneg_left (by omega) (by omega)
    omega
   ·exact h
   ·have : A * 1 <= A * q := Int.mul_le_mul_of_nonneg_left (by omega) (by omega)
    omega
 ·constructor
  ·rintro rfl; omega
  ·intro ⟨ha, hb⟩
   rcases Int.lt_trichotomy q (-1) with h | h | h
   ·have : A * q <= A * (-2) := Int.mul_le_mul_of_nonneg_left (by omega) (by omega)
    omega
   ·exact h
   ·have : A * 0 <= A * q := Int.mul_le_mul_of_nonneg_left (by omega) (by omega)
    omega
theorem wsigned_bad (p : Nat) (n : Int) (k : Nat) (h1 : 1 <= k) (hk : k <= 64) (hb : n < -2 ^ (k - 1) ∨ 2 ^ (k - 1) <= n) (w : World) :
  Calls Tryz.prog 187 #[.pointer (some ⟨p, 0, none⟩), .int .i64 n, .int .i64 (k : Int)] w fun e w' => e = .returned (.int .i64 11) /\ w' = w := by
 have hd := sign_div n (k - 1)
 have hp : 0 < (2 : Int) ^ (k - 1) := Int.pow_pos (by decide)
 have e0 : (n / 2 ^ (k - 1) != 0) = true := by simp only [bne_iff_ne, ne_eq, hd.1]; omega
 have e1 : (n / 2 ^ (k - 1) != -1) = true := by simp only [bne_iff_ne, ne_eq, hd.2]; omega
 clear hd hp hb
 go_enter Tryz.func187, Tryz.ntmps187
 go_wp2
 go_ret
 exact ⟨rfl, rfl⟩
theorem wsigned_ok (p : Nat) (n : Int) (k : Nat) (h1 : 1 <= k) (hk : k <= 64) (hb1 : -2 ^ (k - 1) <= n) (hb2 : n < 2 ^ (k - 1)) (w : World) (ao : OA) (B : List Nat) (h01 : Bits01 B) (hB : B.length <= 9000000000000) (hw : WrB w p ao B) :
  Calls Tryz.prog 187 #[.pointer (some ⟨p, 0, none⟩), .int .i64 n, .int .i64 (k : Int)] w fun e w' =>
   e = .returned (.int .i64 0) /\ ∃ ao', WrB w' p ao' (B ++ bitsOf (asU n) k) /\ Stays (foot p ao) w w' /\ Moved w.heap.size ao ao' := by
 have hd := sign_div n (k - 1)
 have hwr := asU_wrap n
 by_cases hn : 0 <= n
 focus
  have e0 : n / 2 ^ (k - 1) = 0 := hd.1.2 ⟨hn, hb2⟩
 rotate_left
 focus
  have e0 : n / 2 ^ (k - 1) = -1 := hd.2.2 ⟨hb1, by omega⟩
 rotate_left
 all_goals
  clear hd hb1 hb2
  go_enter Tryz.func187, Tryz.ntmps187
  go_wp2_with fail
  refine (put_spec p (asU n) k (asU_lt n) hk w ao B h01 (by omega) hw).mono ?_
  rintro e w' ⟨rfl, ao', h1, h2, h3⟩
  go_wp2
  go_ret
  exact ⟨rfl, ao', h1, h2, h3⟩
def putE (u k : Int) : Int := if 0 <= k /\ k <= 64 /\ u < 2 ^ k.toNat then 0 else 11
def putB (u k : Int) : List Nat := if 0 <= k /\ k <= 64 /\ u < 2 ^ k.toNat then bitsOf u.toNat k.toNat else []
def sigE (n k : Int) : Int := if 1 <= k /\ k <= 64 /\ -2 ^ (k.toNat - 1) <= n /\ n < 2 ^ (k.toNat - 1) then 0 else 11
def sigB (n k : Int) : List Nat := if 1 <= k /\ k <= 64 /\ -2 ^ (k.toNat - 1) <= n /\ n < 2 ^ (k.toNat - 1) then bitsOf (asU n) k.toNat else []
def unrE (n : Int) : Int := if 0 <= n /\ n <= 16777216 then 0 else 11
def unrB (n : Int) : List Nat := if 0 <= n /\ n <= 16777216 then List.replicate n.toNat 0 ++ [1] else []
def rcwE (n k : Int) : Int := if 0 <= k /\ k <= 30 /\ foldN n / 2 ^ k.toNat <= 16777216 then 0 else 11
def rcwB (n k : Int) : List Nat := if 0 <= k /\ k <= 30 /\ foldN n / 2 ^ k.toNat <= 16777216 then List.replicate (foldN n / 2 ^ k.toNat) 0 ++ [1] ++ bitsOf (foldN n) k.toNat else []
theorem Bits01.nil : Bits01 [] := by intro b hb; cases hb
theorem Bits01.one : Bits01 [1] := by intro b hb; simp at hb; omega
theorem putB_01 (u k : Int) : Bits01 (putB u k) := by unfold putB; split; exact bitsOf_01 _ _; exact Bits01.nil
theorem sigB_01 (n k : Int) : Bits01 (sigB n k) := by unfold sigB; split; exact bitsOf_01 _ _; exact Bits01.nil
theorem unrB_01 (n : Int) : Bits01 (unrB n) := by unfold unrB; split; exact (Bits01.zeros _).append Bits01.one; exact Bits01.nil
theorem rcwB_01 (n k : Int) : Bits01 (rcwB n k) := by unfold rcwB; split; exact ((Bits01.zeros _).append Bits01.one).append (bitsOf_01 _ _); exact Bits01.nil
theorem putB_len (u k : Int) : (putB u k).length <= 17000000 := by unfold putB; split; (rw [bitsOf_length]; omega); simp
theorem sigB_len (n k : Int) : (sigB n k).length <= 17000000 := by unfold sigB; split; (rw [bitsOf_length]; omega); simp
theorem unrB_len (n : Int) : (unrB n).length <= 17000000 := by unfold unrB; split; (rw [List.length_append, List.length_replicate, List.length_singleton]; omega); simp
theorem rcwB_len (n k : Int) : (rcwB n k).length <= 17000000 := by
 unfold rcwB
 split
 ·rw [List.length_append, List.length_append, List.length_replicate, List.length_singleton, bitsOf_length]; omega
 ·simp
section
variable (w : World) (ao : OA) (B : List Nat)
theorem wput_all (p : Nat) (u k : Int) (u1 : 0 <= u) (u2 : u <= 18446744073709551615) (h01 : Bits01 B) (hB : B.length <= 7000000000000) (hw : WrB w p ao B) :
  Calls Tryz.prog 24 #[.pointer (some ⟨p, 0, none⟩), .int .u64 u, .int .i64 k] w fun e w' => e = .returned (.int .i64 (putE u k)) /\ ∃ ao', WrB w' p ao' (B ++ putB u k) /\ Stays (foot p ao) w w' /\ Moved w.heap.size ao ao' := by
 by_cases h : 0 <= k /\ k <= 64 /\ u < 2 ^ k.toNat
 ·unfold putE putB
  rw [if_pos h, if_pos h]
  obtain ⟨j, rfl⟩ : ∃ j : Nat, k = (j : Int) := ⟨k.toNat, by omega⟩
  obtain ⟨v, rfl⟩ : ∃ v : Nat, u = (v : Int) := ⟨u.toNat, by omega⟩
  have hv : v < 2 ^ j := by
   have e := h.2.2
   have e2 : (2 : Int) ^ (j : Int).toNat = ((2 ^ j : Nat) : Int) := by simp
   rw [e2] at e
   omega
  exact put_ok p v j (by omega) hv w ao B h01 (by omega) hw
 ·unfold putE putB
  rw [if_neg h, if_neg h]
  refine (put_bad p u k u1 (by omega) (by omega) w).mono ?_
  rintro e w' ⟨rfl, rfl⟩
  exact ⟨rfl, ao, by simpa using hw, Stays.refl _ _, Moved.refl _ _⟩
theorem wsig_all (p : Nat) (n k : Int) (h01 : Bits01 B) (hB : B.length <= 7000000000000) (hw : WrB w p ao B) :
  Calls Tryz.prog 187 #[.pointer (some ⟨p, 0, none⟩), .int .i64 n, .int .i64 k] w fun e w' => e = .returned (.int .i64 (sigE n k)) /\ ∃ ao', WrB w' p ao' (B ++ sigB n k) /\ Stays (foot p ao) w w' /\ Moved w.heap.size ao ao' := by
 by_cases h : 1 <= k /\ k <= 64 /\ -2 ^ (k.toNat - 1) <= n /\ n < 2 ^ (k.toNat - 1)
 ·unfold sigE sigB
  rw [if_pos h, if_pos h]
  obtain ⟨j, rfl⟩ : ∃ j : Nat, k = (j : Int) := ⟨k.toNat, by omega⟩
  exact wsigned_ok p n j (by omega) (by omega) h.2.2.1 h.2.2.2 w ao B h01 (by omega) hw
 ·unfold sigE sigB
  rw [if_neg h, if_neg h]
  have fin : ∀ (e : Ending) (w' : World), e = .returned (.int .i64 11) /\ w' = w -> e = .returned (.int .i64 11) /\ ∃ ao', WrB w' p ao' (B ++ []) /\ Stays (foot p ao) w w' /\ Moved w.heap.size ao ao' := by
   rintro e w' ⟨rfl, rfl⟩
   exact ⟨rfl, ao, by simpa using hw, Stays.refl _ _, Moved.refl _ _⟩
  by_cases hk : k < 1 ∨ 64 < k
  ·exact (wsigned_width p n k hk w).mono fin
  ·obtain ⟨j, rfl⟩ : ∃ j : Nat, k = (j : Int) := ⟨k.toNat, by omega⟩
   rw [Int.toNat_natCast] at h
   exact (wsigned_bad p n j (by omega) (by omega) (by omega) w).mono fin
theorem wunr_all (p : Nat) (n : Int) (h01 : Bits01 B) (hB : B.length <= 7000000000000) (hw : WrB w p ao B) :
  Calls Tryz.prog 156 #[.pointer (some ⟨p, 0, none⟩), .int .i64 n] w fun e w' => e = .returned (.int .i64 (unrE n)) /\ ∃ ao', WrB w' p ao' (B ++ unrB n) /\ Stays (foot p ao) w w' /\ Moved w.heap.size ao ao' := by
 by_cases h : 0 <= n /\ n <= 16777216
 ·unfold unrE unrB
  rw [if_pos h, if_pos h, <- List.append_assoc]
  obtain ⟨j, rfl⟩ : ∃ j : Nat, n = (j : Int) := ⟨n.toNat, by omega⟩
  exact wunary_ok p j (by omega) w ao B h01 (by omega) hw
 ·unfold unrE unrB
  rw [if_neg h, if_neg h]
  refine (wunary_bad p n (by omega) w).mono ?_
  rintro e w' ⟨rfl, rfl⟩
  exact ⟨rfl, ao, by simpa using hw, Stays.refl _ _, Moved.refl _ _⟩
theorem wric_all (p : Nat) (n k : Int) (n1 : -9223372036854775808 <= n) (n2 : n <= 9223372036854775807) (h01 : Bits01 B) (hB : B.length <= 7000000000000) (hw : WrB w p ao B) :
  Calls Tryz.prog 215 #[.pointer (some ⟨p, 0, none⟩), .int .i64 n, .int .i64 k] w fun e w' => e = .returned (.int .i64 (rcwE n k)) /\ ∃ ao', WrB w' p ao' (B ++ rcwB n k) /\ Stays (foot p ao) w w' /\ Moved w.heap.size ao ao' := by
 by_cases h : 0 <= k /\ k <= 30 /\ foldN n / 2 ^ k.toNat <= 16777216
 ·unfold rcwE rcwB
  rw [if_pos h, if_pos h, <- List.append_assoc, <- List.append_assoc]
  obtain ⟨j, rfl⟩ : ∃ j : Nat, k = (j : Int) := ⟨k.toNat, by omega⟩
  exact rice_ok p n n1 n2 j (by omega) h.2.2 w ao B h01 (by omega) hw
 ·unfold rcwE rcwB
  rw [if_neg h, if_neg h]
  have fin : ∀ (e : Ending) (w' : World), e = .returned (.int .i64 11) /\ w' = w -> e = .returned (.int .i64 11) /\ ∃ ao', WrB w' p ao' (B ++ []) /\ Stays (foot p ao) w w' /\ Moved w.heap.size ao ao' := by
   rintro e w' ⟨rfl, rfl⟩
   exact ⟨rfl, ao, by simpa using hw, Stays.refl _ _, Moved.refl _ _⟩
  by_cases hk : k < 0 ∨ 30 < k
  ·exact (rice_width p n k hk w).mono fin
  ·obtain ⟨j, rfl⟩ : ∃ j : Nat, k = (j : Int) := ⟨k.toNat, by omega⟩
   rw [Int.toNat_natCast] at h
   exact (rice_long p n n1 n2 j (by omega) (by omega) w).mono fin
end
def unfoldN (u : Nat) : Int := if u % 2 = 0 then ((u / 2 : Nat) : Int) else -((u / 2 : Nat) : Int) - 1
theorem u64_and1 (u : Nat) (hu : u < 18446744073709551616) : bits BinOp.and IntKind.u64 (u : Int) 1 = ((u % 2 : Nat) : Int) := by
 have := u64_and_nat u 1 hu (by decide)
 rw [nat_mask1] at this
 exact this
theorem i64_xor0 (x : Int) (h1 : -9223372036854775808 <= x) (h2 : x <= 9223372036854775807) : bits BinOp.xor IntKind.i64 x 0 = x := by
 show IntKind.i64.wrap ((BitVec.ofInt 64 x ^^^ BitVec.ofInt 64 0).toNat : Int) = _
 rw [BitVec.toNat_xor, BitVec.toNat_ofInt, show (BitVec.ofInt 64 0).toNat = 0 from rfl, Nat.xor_zero, IntKind.wrap_i64]
 omega
theorem i64_xor1 (x : Int) (h1 : -9223372036854775808 <= x) (h2 : x <= 9223372036854775807) : bits BinOp.xor IntKind.i64 x (-1) = -x - 1 := by
 show IntKind.i64.wrap ((BitVec.ofInt 64 x ^^^ BitVec.ofInt 64 (-1)).toNat : Int) = _
 rw [BitVec.toNat_xor, BitVec.toNat_ofInt, show (BitVec.ofInt 64 (-1)).toNat = 18446744073709551615 from rfl, xor_ones _ (by omega), IntKind.wrap_i64]
 omega
theorem refunfold_spec (u : Nat) (hu : u < 18446744073709551616) (w : World) : Calls Tryz.prog 203 #[.int .u64 (u : Int)] w fun e w' => e = .returned (.int .i64 (unfoldN u)) /\ w' = w := by
 have ha := u64_and1 u hu
 by_cases h0 : u % 2 = 0
 ·have hz : (((u % 2 : Nat) : Int) == 0) = true := by simp; omega
  rw [h0] at ha
  go_enter Tryz.func203, Tryz.ntmps203
  go_wp2
  go_ret
  exact ⟨ret_int (by unfold unfoldN; rw [if_pos h0]; omega), rfl⟩
 ·have h1 : u % 2 = 1 := by omega
  rw [h1] at ha
  go_enter Tryz.func203, Tryz.ntmps203
  go_wp2
  go_ret
  exact ⟨ret_int (by unfold unfoldN; rw [if_neg h0]; omega), rfl⟩
theorem unfolded_spec (u : Nat) (hu : u < 18446744073709551616) (w : World) : Calls Tryz.prog 236 #[.int .u64 (u : Int)] w fun e w' => e = .returned (.int .i64 (unfoldN u)) /\ w' = w := by
 have ha := u64_and1 u hu
 by_cases h0 : u % 2 = 0
 ·rw [h0] at ha
  go_enter Tryz.func236, Tryz.ntmps236
  go_wp2
  go_ret
  refine ⟨ret_int ?_, rfl⟩
  have := i64_xor0 ((u / 2 : Nat) : Int) (by omega) (by omega)
  unfold unfoldN
  rw [if_pos h0]
  simpa using this
 ·have h1 : u % 2 = 1 := by omega
  rw [h1] at ha
  go_enter Tryz.func236, Tryz.ntmps236
  go_wp2
  go_ret
  refine ⟨ret_int ?_, rfl⟩
  have := i64_xor1 ((u / 2 : Nat) : Int) (by omega) (by omega)
  unfold unfoldN
  rw [if_neg h0]
  simpa using this
def sgn (u k : Nat) : Int := if 2 ^ (k - 1) <= u then (u : Int) - 2 ^ k else (u : Int)
theorem ret_pair {k l : IntKind} {a b c : Int} (h : a = b) : Ending.returned (.tuple #[.int k a, .int l c]) = .returned (.tuple #[.int k b, .int l c]) := by rw [h]
theorem sgn_code (u k : Nat) (h1 : 1 <= k) (h2 : k <= 64) (hu : u < 2 ^ k) : wrap64 (IntKind.u64.wrap ((u : Int) * 2 ^ (64 - k))) / 2 ^ (64 - k) = sgn u k := by
 obtain ⟨A, hA⟩ : ∃ A, A = (2 : Nat) ^ (64 - k) := ⟨_, rfl⟩
 obtain ⟨H, hH⟩ : ∃ H, H = (2 : Nat) ^ (k - 1) := ⟨_, rfl⟩
 have hA0 : 0 < A := by rw [hA]; exact Nat.two_pow_pos _
 have hHA : H * A = 9223372036854775808 := by rw [hA, hH, <- Nat.pow_add, show k - 1 + (64 - k) = 63 from by omega]
 have hk : (2 : Nat) ^ k = 2 * H := by rw [hH, <- Nat.pow_succ', show (k - 1).succ = k from by omega]
 have ei : (2 : Int) ^ (64 - k) = (A : Int) := by rw [hA]; simp
 have ek : (2 : Int) ^ k = ((2 * H : Nat) : Int) := by rw [<- hk]; simp
 have eu : (u : Int) * (A : Int) = ((u * A : Nat) : Int) := by simp
 have hub : u * A < (2 * H) * A := Nat.mul_lt_mul_of_pos_right (by omega) hA0
 rw [Nat.mul_assoc, hHA] at hub
 unfold sgn
 rw [ei, ek, eu, IntKind.wrap_u64, <- hH]
 by_cases hh : H <= u
 ·rw [if_pos hh]
  have hge : H * A <= u * A := Nat.mul_le_mul_right _ hh
  have e1 : wrap64 (((u * A : Nat) : Int) % 18446744073709551616) = ((u : Int) - ((2 * H : Nat) : Int)) * (A : Int) := by
   have e2 : ((u : Int) - ((2 * H : Nat) : Int)) * (A : Int) = ((u * A : Nat) : Int) - ((2 * (H * A) : Nat) : Int) := by
    rw [Int.sub_mul, eu, <- Nat.mul_assoc]
    simp
   rw [e2, hHA]
   unfold wrap64
   omega
  rw [e1, Int.mul_ediv_cancel _ (by omega)]
 ·rw [if_neg hh]
  have hlt : u * A < H * A := Nat.mul_lt_mul_of_pos_right (by omega) hA0
  have e1 : wrap64 (((u * A : Nat) : Int) % 18446744073709551616) = (u : Int) * (A : Int) := by
   rw [eu]
   unfold wrap64
   omega
  rw [e1, Int.mul_ediv_cancel _ (by omega)]
theorem signed_width (q : Nat) (k : Int) (hk : k < 1 ∨ 64 < k) (w : World) : Calls Tryz.prog 199 #[.pointer (some ⟨q, 0, none⟩), .int .i64 k] w fun e w' => e = .returned (.tuple #[.int .i64 0, .int .i64 11]) /\ w' = w := by
 rcases hk with hk | hk
 ·go_enter Tryz.func199, Tryz.ntmps199
  go_wp2
  go_ret2
  exact ⟨rfl, rfl⟩
 ·go_enter Tryz.func199, Tryz.ntmps199
  go_wp2
  go_ret2
  exact ⟨rfl, rfl⟩
theorem signed_end (q : Nat) (s : ByteArray) (hs : s.size <= 1000000000000000000) (at_ : Nat) (ha : at_ <= 8 * s.size) (k : Nat) (h1 : 1 <= k) (hk : k <= 64) (he : 8 * s.size < at_ + k) (w : World) (h : Rd w q s at_) :
  Calls Tryz.prog 199 #[.pointer (some ⟨q, 0, none⟩), .int .i64 (k : Int)] w fun e w' => e = .returned (.tuple #[.int .i64 0, .int .i64 10]) /\ ∃ n, w' = w.drewN n := by
 go_enter Tryz.func199, Tryz.ntmps199
 go_wp2_with (go_at_call 139; refine (get_end q s hs at_ ha k hk he _ h).mono ?_; rintro e w' ⟨rfl, n1, rfl⟩)
 go_ret2
 exact ⟨rfl, _, rfl⟩
theorem signed_ok (q : Nat) (s : ByteArray) (hs : s.size <= 1000000000000000000) (at_ : Nat) (k : Nat) (h1 : 1 <= k) (hk : k <= 64) (he : at_ + k <= 8 * s.size) (w : World) (h : Rd w q s at_) :
  Calls Tryz.prog 199 #[.pointer (some ⟨q, 0, none⟩), .int .i64 (k : Int)] w fun e w' => e = .returned (.tuple #[.int .i64 (sgn (bitsAt s at_ k) k), .int .i64 0]) /\ Rd w' q s (at_ + k) /\ Stays (only q) w w' := by
 go_enter Tryz.func199, Tryz.ntmps199
 go_wp2_with (go_at_call 139; refine (get_ok q s hs at_ k hk he _ h).mono ?_; rintro e w2 ⟨rfl, hR2, hS2⟩)
 go_ret2
 exact ⟨ret_pair (sgn_code _ k h1 hk (bitsAt_lt s at_ k)), hR2, hS2⟩
theorem or_low (z low k : Nat) (hz : z <= 16777216) (hk : k <= 30) (hl : low < 2 ^ k) :
  bits BinOp.or IntKind.u64 (IntKind.u64.wrap ((z : Int) * 2 ^ k)) (low : Int) = ((z * 2 ^ k + low : Nat) : Int) /\ z * 2 ^ k + low < 18446744073709551616 := by
 have h30 : (2 : Nat) ^ k <= 2 ^ 30 := pow_le_of k 30 hk
 have hm : z * 2 ^ k <= 16777216 * 2 ^ 30 := Nat.mul_le_mul hz h30
 have e : IntKind.u64.wrap ((z : Int) * 2 ^ k) = ((z * 2 ^ k : Nat) : Int) := by
  have e1 : (z : Int) * 2 ^ k = ((z * 2 ^ k : Nat) : Int) := by simp
  rw [IntKind.wrap_u64, e1]
  omega
 exact ⟨by rw [e, u64_or_nat _ _ (by omega) (by omega), nat_join k _ _ (by simp) hl], by omega⟩
theorem rrice_width (q : Nat) (k : Int) (hk : k < 0 ∨ 30 < k) (w : World) : Calls Tryz.prog 235 #[.pointer (some ⟨q, 0, none⟩), .int .i64 k] w fun e w' => e = .returned (.tuple #[.int .i64 0, .int .i64 11]) /\ w' = w := by
 rcases hk with hk | hk
 ·go_enter Tryz.func235, Tryz.ntmps235
  go_wp2
  go_ret2
  exact ⟨rfl, rfl⟩
 ·go_enter Tryz.func235, Tryz.ntmps235
  go_wp2
  go_ret2
  exact ⟨rfl, rfl⟩
theorem below_only {q : Nat} {w w' : World} (h : Lo w w') : Stays (only q) w w' := Stays.of_below h _
theorem rrice_uerr (q : Nat) (s : ByteArray) (hs : s.size <= 1000000000000000000) (at_ : Nat) (ha : at_ <= 8 * s.size) (k : Nat) (hk : k <= 30) (hl : 16777216 < lead (ahead s at_)) (w : World) (h : Rd w q s at_) :
  Calls Tryz.prog 235 #[.pointer (some ⟨q, 0, none⟩), .int .i64 (k : Int)] w fun e w' => e = .returned (.tuple #[.int .i64 0, .int .i64 11]) /\ Rd w' q s at_ /\ Stays (only q) w w' := by
 have c0 := h.c0
 have c1 := h.c1
 go_enter Tryz.func235, Tryz.ntmps235
 go_wp2_with fail
 have hB1 : Lo w (w.alloc (.cells #[.int .i64 (at_ : Int), .int .i64 (8 * (s.size : Int))] 128)) := aQ
 have hR1 : Rd (w.alloc (.cells #[.int .i64 (at_ : Int), .int .i64 (8 * (s.size : Int))] 128)) q s at_ := h.below hB1
 refine (runary_width q s hs at_ ha hl _ hR1).mono ?_
 rintro e w2 ⟨rfl, n1, rfl⟩
 go_wp2
 go_ret2
 exact ⟨rfl, hR1, (below_only hB1).drewN _⟩
theorem rrice_uend (q : Nat) (s : ByteArray) (hs : s.size <= 1000000000000000000) (at_ : Nat) (ha : at_ <= 8 * s.size) (k : Nat) (hk : k <= 30) (hl : lead (ahead s at_) <= 16777216) (he : lead (ahead s at_) = 8 * s.size - at_) (w : World) (h : Rd w q s at_) :
  Calls Tryz.prog 235 #[.pointer (some ⟨q, 0, none⟩), .int .i64 (k : Int)] w fun e w' => e = .returned (.tuple #[.int .i64 0, .int .i64 10]) /\ Rd w' q s at_ /\ Stays (only q) w w' := by
 have HL : Hid _ := hl
 have HE : Hid _ := he
 clear hl he
 have c0 := h.c0
 have c1 := h.c1
 go_enter Tryz.func235, Tryz.ntmps235
 go_wp2_with fail
 have hB1 : Lo w (w.alloc (.cells #[.int .i64 (at_ : Int), .int .i64 (8 * (s.size : Int))] 128)) := aQ
 have hR1 : Rd (w.alloc (.cells #[.int .i64 (at_ : Int), .int .i64 (8 * (s.size : Int))] 128)) q s at_ := h.below hB1
 refine (runary_end q s hs at_ ha HL.out HE.out _ hR1).mono ?_
 rintro e w2 ⟨rfl, n1, rfl⟩
 go_wp2
 go_ret2
 exact ⟨rfl, hR1, (below_only hB1).drewN _⟩
theorem rrice_gend (q : Nat) (s : ByteArray) (hs : s.size <= 1000000000000000000) (at_ : Nat) (ha : at_ <= 8 * s.size) (k : Nat) (hk : k <= 30) (z : Nat) (hz : lead (ahead s at_) = z) (hl : z <= 16777216) (hzr : z < 8 * s.size - at_) (he : 8 * s.size < at_ + z + 1 + k) (w : World) (h : Rd w q s at_) :
  Calls Tryz.prog 235 #[.pointer (some ⟨q, 0, none⟩), .int .i64 (k : Int)] w fun e w' => e = .returned (.tuple #[.int .i64 0, .int .i64 10]) /\ Rd w' q s at_ /\ Stays (only q) w w' := by
 have HZ : Hid _ := hz
 clear hz
 have c0 := h.c0
 have c1 := h.c1
 go_enter Tryz.func235, Tryz.ntmps235
 go_wp2_with fail
 have hB1 : Lo w (w.alloc (.cells #[.int .i64 (at_ : Int), .int .i64 (8 * (s.size : Int))] 128)) := aQ
 have hR1 : Rd (w.alloc (.cells #[.int .i64 (at_ : Int), .int .i64 (8 * (s.size : Int))] 128)) q s at_ := h.below hB1
 refine (runary_ok q s hs at_ ha z HZ.out hl hzr _ hR1).mono ?_
 rintro e w2 ⟨rfl, hR2, hS2⟩
 have hq := h.lt
 have a0 : w2.cell? ⟨w.heap.size, 0, none⟩ = some (.int .i64 (at_ : Int)) := by
  rw [World.cell?_of_block (w := w.alloc (.cells #[.int .i64 (at_ : Int), .int .i64 (8 * (s.size : Int))] 128)) (hS2.block w.heap.size (by simp) (fun e => by have : w.heap.size = q := e; omega))]
  simp only [World.cell?, heap_alloc_new]
  rfl
 have a1 : w2.cell? ⟨w.heap.size, 1, none⟩ = some (.int .i64 (8 * (s.size : Int))) := by
  rw [World.cell?_of_block (w := w.alloc (.cells #[.int .i64 (at_ : Int), .int .i64 (8 * (s.size : Int))] 128)) (hS2.block w.heap.size (by simp) (fun e => by have : w.heap.size = q := e; omega))]
  simp only [World.cell?, heap_alloc_new]
  rfl
 have d0 := hR2.c0
 have d1 := hR2.c1
 have g0 := hR2.f 0
 have g1 := hR2.f 1
 have HS : Hid (Stays (only q) w w2) := (below_only hB1).trans hS2 (fun _ _ h => h)
 clear hB1 hR1 hS2 c0 c1
 go_wp2_with fail
 refine (get_end q s hs (at_ + z + 1) (by omega) k (by omega) he _ hR2).mono ?_
 rintro e w3 ⟨rfl, n1, rfl⟩
 go_wp2
 go_ret2
 refine ⟨rfl, ?_, (((HS.out).drewN _).setCell ⟨q, 0, none⟩ _ (.inl rfl)).setCell ⟨q, 1, none⟩ _ (.inl rfl)⟩
 have hx := (hR2.drewN n1).set at_
 unfold Rd at hx ⊢
 rw [block_setCell _ q 1 _ _ _ hx]
 rfl
theorem rrice_ok (q : Nat) (s : ByteArray) (hs : s.size <= 1000000000000000000) (at_ : Nat) (ha : at_ <= 8 * s.size) (k : Nat) (hk : k <= 30) (z : Nat) (hz : lead (ahead s at_) = z) (hl : z <= 16777216) (he : at_ + z + 1 + k <= 8 * s.size) (w : World) (h : Rd w q s at_) :
  Calls Tryz.prog 235 #[.pointer (some ⟨q, 0, none⟩), .int .i64 (k : Int)] w fun e w' => e = .returned (.tuple #[.int .i64 (unfoldN (z * 2 ^ k + bitsAt s (at_ + z + 1) k)), .int .i64 0]) /\ Rd w' q s (at_ + z + 1 + k) /\ Stays (only q) w w' := by
 have HZ : Hid _ := hz
 clear hz
 have c0 := h.c0
 have c1 := h.c1
 go_enter Tryz.func235, Tryz.ntmps235
 go_wp2_with fail
 have hB1 : Lo w (w.alloc (.cells #[.int .i64 (at_ : Int), .int .i64 (8 * (s.size : Int))] 128)) := aQ
 have hR1 : Rd (w.alloc (.cells #[.int .i64 (at_ : Int), .int .i64 (8 * (s.size : Int))] 128)) q s at_ := h.below hB1
 refine (runary_ok q s hs at_ ha z HZ.out hl (by omega) _ hR1).mono ?_
 rintro e w2 ⟨rfl, hR2, hS2⟩
 have HS : Hid (Stays (only q) w w2) := (below_only hB1).trans hS2 (fun _ _ h => h)
 clear hB1 hR1 hS2 c0 c1
 go_wp2_with fail
 refine (get_ok q s hs (at_ + z + 1) k (by omega) he _ hR2).mono ?_
 rintro e w3 ⟨rfl, hR3, hS3⟩
 have HO : Hid _ := or_low z (bitsAt s (at_ + z + 1) k) k hl hk (bitsAt_lt s _ k)
 go_wp2_with fail
 rw [HO.out.1]
 refine (unfolded_spec _ HO.out.2 _).mono ?_
 rintro e w4 ⟨rfl, rfl⟩
 go_wp2
 go_ret2
 exact ⟨rfl, hR3, HS.out.trans hS3 (fun _ _ h => h)⟩
def padOf (at_ : Nat) : Nat := (8 - at_ % 8) % 8
theorem ralign_spec (q : Nat) (s : ByteArray) (hs : s.size <= 1000000000000000000) (at_ : Nat) (ha : at_ <= 8 * s.size) (w : World) (h : Rd w q s at_) :
  Calls Tryz.prog 104 #[.pointer (some ⟨q, 0, none⟩)] w fun e w' => e = .returned (.tuple #[.bool ((bitsAt s at_ (padOf at_) : Int) == 0), .int .i64 0]) /\ Rd w' q s (at_ + padOf at_) /\ Stays (only q) w w' := by
 have hand : bits BinOp.and IntKind.i64 (-(at_ : Int)) 7 = (padOf at_ : Int) := by rw [i64_and7]; unfold padOf; omega
 have hp : at_ + padOf at_ <= 8 * s.size /\ padOf at_ <= 64 := by unfold padOf; omega
 go_enter Tryz.func104, Tryz.ntmps104
 go_wp2_with (first | (go_at_call 105; refine (passed_spec q s at_ _ h).mono ?_; rintro e w' ⟨rfl, rfl⟩) | (go_at_call 144; refine (take_spec q s hs at_ (padOf at_) hp.1 hp.2 _ h).mono ?_; rintro e w2 ⟨rfl, hR2, hS2⟩))
 go_ret2
 exact ⟨rfl, hR2, hS2⟩
end Go.Proofs.YtfpfabmbipmipaaGreatDoor
