/- Own text: the walks of fits, Be, Le. the walks of FromBe, FromLe. -/
import Derived.Test.YtjkamannjgcmiaaDoorG8x
import Derived.WalkKit
namespace Go.Proofs.YtjkamannjgcmiaaDoor
open Go.RowKit
set_option linter.unusedSimpArgs false
set_option linter.unusedVariables false
namespace S2



theorem ret_bool {a b : Bool} (h : a = b) : Ending.returned (.bool a) = .returned (.bool b) := by rw [h]

theorem fits_eq (m k : Nat) (h1 : 1 ≤ k) (h8 : k ≤ 8) : fitsB (m : Int) (k : Int) = decide (m < 256 ^ k) := by
  by_cases h : m < 256 ^ k
  · rw [fits_of_nat m k h1 h8 h]; simp [h]
  · have : fitsB (m : Int) (k : Int) = false := by
      rw [Bool.eq_false_iff]
      intro hf
      obtain ⟨m', k', e1, e2, _, _, h'⟩ := fits_nat hf
      obtain rfl : m = m' := by omega
      obtain rfl : k = k' := by omega
      exact h h'
    rw [this]; simp [h]

theorem fits_low (n k : Int) (h : k < 1) : fitsB n k = false := by unfold fitsB; exact decide_eq_false (by omega)
theorem fits_wide (n k : Int) (h : 8 < k) : fitsB n k = false := by unfold fitsB; exact decide_eq_false (by omega)
theorem fits_neg (n k : Int) (h : n < 0) : fitsB n k = false := by unfold fitsB; exact decide_eq_false (by omega)

set_option maxRecDepth 20000 in
set_option maxHeartbeats 800000 in
theorem fits_spec (n k : Int) (h1 : -9223372036854775808 ≤ n) (h2 : n ≤ 9223372036854775807) (w : World) :
    Calls Tryd.prog 74 #[.int .i64 n, .int .i64 k] w fun e w' => e = .returned (.bool (fitsB n k)) ∧ w' = w := by
  by_cases a : k < 1
  · rw [fits_low n k a]
    go_enter Tryd.func74, Tryd.ntmps74
    go_wp2
    go_ret
    exact ⟨rfl, rfl⟩
  by_cases b : 8 < k
  · rw [fits_wide n k b]
    go_enter Tryd.func74, Tryd.ntmps74
    go_wp2
    go_ret
    exact ⟨rfl, rfl⟩
  by_cases c : n < 0
  · rw [fits_neg n k c]
    go_enter Tryd.func74, Tryd.ntmps74
    go_wp2
    go_ret
    exact ⟨rfl, rfl⟩
  obtain ⟨j, rfl⟩ : ∃ j : Nat, k = (j : Int) := ⟨k.toNat, by omega⟩
  obtain ⟨m, rfl⟩ : ∃ m : Nat, n = (m : Int) := ⟨n.toNat, by omega⟩
  rw [fits_eq m j (by omega) (by omega)]
  have hz := shr_zero m j
  go_enter Tryd.func74, Tryd.ntmps74
  go_wp2
  go_ret
  exact ⟨rfl, rfl⟩

set_option maxRecDepth 20000 in
set_option maxHeartbeats 800000 in
theorem reffits_spec (n k : Int) (h1 : -9223372036854775808 ≤ n) (h2 : n ≤ 9223372036854775807) (w : World) :
    Calls Tryd.prog 80 #[.int .i64 n, .int .i64 k] w fun e w' => e = .returned (.bool (fitsB n k)) ∧ w' = w := by
  by_cases a : k < 1
  · rw [fits_low n k a]
    go_enter Tryd.func80, Tryd.ntmps80
    go_wp2
    go_ret
    exact ⟨rfl, rfl⟩
  by_cases b : 8 < k
  · rw [fits_wide n k b]
    go_enter Tryd.func80, Tryd.ntmps80
    go_wp2
    go_ret
    exact ⟨rfl, rfl⟩
  by_cases c : n < 0
  · rw [fits_neg n k c]
    go_enter Tryd.func80, Tryd.ntmps80
    go_wp2
    go_ret
    exact ⟨rfl, rfl⟩
  obtain ⟨j, rfl⟩ : ∃ j : Nat, k = (j : Int) := ⟨k.toNat, by omega⟩
  obtain ⟨m, rfl⟩ : ∃ m : Nat, n = (m : Int) := ⟨n.toNat, by omega⟩
  rw [fits_eq m j (by omega) (by omega)]
  by_cases h8 : j = 8
  · subst h8
    have hd : decide (m < 256 ^ 8) = true := decide_eq_true (by omega)
    rw [hd]
    clear hd
    go_enter Tryd.func80, Tryd.ntmps80
    go_wp2
    go_ret
    exact ⟨rfl, rfl⟩
  · have hz := shr_zero m j
    have hne : ((j : Int) == 8) = false := by simp; omega
    go_enter Tryd.func80, Tryd.ntmps80
    go_wp2
    go_ret
    exact ⟨rfl, rfl⟩

theorem i64_and255 (n : Int) : bits BinOp.and IntKind.i64 n 255 = n % 256 := by
  show IntKind.i64.wrap ((BitVec.ofInt 64 n &&& BitVec.ofInt 64 255).toNat : Int) = _
  rw [BitVec.toNat_and, BitVec.toNat_ofInt, show (BitVec.ofInt 64 255).toNat = 2 ^ 8 - 1 from rfl, Nat.and_two_pow_sub_one_eq_mod, IntKind.wrap_i64]
  omega

theorem i64_and63 (n : Int) : bits BinOp.and IntKind.i64 n 63 = n % 64 := by
  show IntKind.i64.wrap ((BitVec.ofInt 64 n &&& BitVec.ofInt 64 63).toNat : Int) = _
  rw [BitVec.toNat_and, BitVec.toNat_ofInt, show (BitVec.ofInt 64 63).toNat = 2 ^ 6 - 1 from rfl, Nat.and_two_pow_sub_one_eq_mod, IntKind.wrap_i64]
  omega

theorem pow_le_8 (k : Nat) (h : k ≤ 8) : 256 ^ k ≤ 18446744073709551616 := by
  have := Nat.pow_le_pow_right (n := 256) (by decide) h
  simpa using this

set_option maxRecDepth 20000 in
set_option maxHeartbeats 800000 in
theorem le_spec (n k : Int) (h1 : -9223372036854775808 ≤ n) (h2 : n ≤ 9223372036854775807) (w : World) :
    Calls Tryd.prog 65 #[.int .i64 n, .int .i64 k] w fun e w' => e = .returned (.tuple #[.string (leT n k), .int .i64 (wE n k)]) ∧ Below w.heap.size w w' := by
  by_cases hf : fitsB n k = true
  · obtain ⟨m, j, rfl, rfl, h1, h8, hm⟩ := fits_nat hf
    rw [leT_nat m j hf, wE_yes _ _ hf]
    go_enter Tryd.func65, Tryd.ntmps65
    go_wp2_with fail
    refine (fits_spec _ _ (by omega) (by omega) _).mono ?_
    rintro e w' ⟨rfl, rfl⟩
    go_wp2_with fail
    refine (lowFirst_spec m j (by omega) (by omega) _).mono ?_
    rintro e w' ⟨rfl, hB⟩
    go_wp2
    go_ret2
    exact ⟨rfl, hB⟩
  · have hf' : fitsB n k = false := by simpa using hf
    clear hf
    rw [leT_no n k hf', wE_no _ _ hf']
    go_enter Tryd.func65, Tryd.ntmps65
    go_wp2_with fail
    refine (fits_spec _ _ (by omega) (by omega) _).mono ?_
    rintro e w' ⟨rfl, rfl⟩
    go_wp2
    go_ret2
    exact ⟨rfl, Below.refl _ _⟩

theorem div_step (m t : Nat) : ((m / 256 ^ t : Nat) : Int) / 256 = ((m / 256 ^ (t + 1) : Nat) : Int) := by
  rw [Nat.pow_succ, ← Nat.div_div_eq_div_mul]
  omega

set_option maxRecDepth 20000 in
set_option maxHeartbeats 1600000 in
theorem refbe_spec (n k : Int) (h1 : -9223372036854775808 ≤ n) (h2 : n ≤ 9223372036854775807) (w : World) :
    Calls Tryd.prog 69 #[.int .i64 n, .int .i64 k] w fun e w' => e = .returned (.tuple #[.string (beT n k), .int .i64 (wE n k)]) ∧ Below w.heap.size w w' := by
  by_cases hf : fitsB n k = true
  · obtain ⟨m, j, rfl, rfl, h1, h8, hm⟩ := fits_nat hf
    rw [beT_nat m j hf, wE_yes _ _ hf]
    have hmk := made_run j (by omega)
    have hrow := World.rowIs_made w (.int .u8 0) j 5
    have hbel : Below w.heap.size w (w.alloc (.cells (madeCells #[.int .u8 0] j) 5)) := (Below.refl _ _).alloc (Nat.le_refl _) _
    go_enter Tryd.func69, Tryd.ntmps69
    go_wp2_with fail
    refine (reffits_spec _ _ (by omega) (by omega) _).mono ?_
    rintro e w' ⟨rfl, rfl⟩
    go_wp2
    clear hf
    go_loopw [0, 7] (fun x y wr => ∃ (t q : Nat), t ≤ j ∧ q = m / 256 ^ t ∧ x = .int .i64 (q : Int) ∧ y = .int .i64 ((j : Int) - 1 - t) ∧ wr.rowIs w'.heap.size 5 j (fun i => .int .u8 ((if j - 1 - i < t then m / 256 ^ (j - 1 - i) % 256 else 0 : Nat) : Int)) ∧ Below w'.heap.size w' wr) (fun _ y _ => (intOf y + 1).toNat)
    case atStart => exact ⟨0, m, Nat.zero_le _, by simp, by simp, by simp, hrow.congr (fun i _ => by simp), hbel⟩
    case round =>
      obtain ⟨t, q, ht, hq, rfl, rfl, hr, hb⟩ := hrel
      have hle : q ≤ m := by rw [hq]; exact Nat.div_le_self _ _
      have HD : Hid (q = m / 256 ^ t) := hq
      clear hq
      by_cases hlt : t < j
      · have hc := hr.cell (i := j - 1 - t) (by omega)
        have hf := hr.frozen (j - 1 - t)
        have hand := i64_and255 (q : Int)
        go_wp2
        go_roundw
        case rel =>
          refine ⟨t + 1, q / 256, by omega, ?_, by go_num, by go_num, ?_, hb.setCell (by simp) _⟩
          · rw [HD.out, Nat.pow_succ, ← Nat.div_div_eq_div_mul]
          · refine (hr.set (j - 1 - t) _).congr (fun i hi => ?_)
            by_cases e : i = j - 1 - t
            · subst e
              rw [if_pos rfl, show j - 1 - (j - 1 - t) = t from by omega, if_pos (by omega), ← HD.out]
              congr 1
            · rw [if_neg e]
              congr 3
              by_cases h : j - 1 - i < t
              · simp [h, show j - 1 - i < t + 1 by omega]
              · simp [h, show ¬ j - 1 - i < t + 1 by omega]
        case measure => simp [intOf]; omega
      · obtain rfl : t = j := by omega
        have hr2 : wr.rowIs w'.heap.size 5 t (fun i => .int .u8 ((m / 256 ^ (t - 1 - i) % 256 : Nat) : Int)) := hr.congr (fun i hi => by rw [if_pos (by omega)])
        have hcv := conv_row (cap := t) hr2
        clear hr
        go_wp2
        go_ret2
        exact ⟨rfl, hb⟩
  · have hf' : fitsB n k = false := by simpa using hf
    clear hf
    rw [beT_no n k hf', wE_no _ _ hf']
    go_enter Tryd.func69, Tryd.ntmps69
    go_wp2_with fail
    refine (reffits_spec _ _ (by omega) (by omega) _).mono ?_
    rintro e w' ⟨rfl, rfl⟩
    go_wp2
    go_ret2
    exact ⟨rfl, Below.refl _ _⟩

theorem beT_size (n k : Int) : (beT n k).size ≤ 8 := by
  by_cases hf : fitsB n k = true
  · obtain ⟨m, j, rfl, rfl, h1, h8, hm⟩ := fits_nat hf
    rw [beT_nat m j hf, textOf_size, highL_length]
    exact h8
  · have hf' : fitsB n k = false := by simpa using hf
    rw [beT_no n k hf']
    simp [ByteArray.size]

theorem leT_turned (n k : Int) : textOf (bytesOf (beT n k)).reverse = leT n k := by
  by_cases hf : fitsB n k = true
  · obtain ⟨m, j, rfl, rfl, h1, h8, hm⟩ := fits_nat hf
    rw [beT_nat m j hf, leT_nat m j hf, bytesOf_textOf _ (highL_lt m j), lowL_reverse]
  · have hf' : fitsB n k = false := by simpa using hf
    rw [beT_no n k hf', leT_no n k hf']
    rfl

set_option maxRecDepth 20000 in
set_option maxHeartbeats 800000 in
theorem refle_spec (n k : Int) (h1 : -9223372036854775808 ≤ n) (h2 : n ≤ 9223372036854775807) (w : World) :
    Calls Tryd.prog 52 #[.int .i64 n, .int .i64 k] w fun e w' => e = .returned (.tuple #[.string (leT n k), .int .i64 (wE n k)]) ∧ Below w.heap.size w w' := by
  go_enter Tryd.func52, Tryd.ntmps52
  go_wp2_with fail
  refine (refbe_spec _ _ h1 h2 _).mono ?_
  rintro e w1 ⟨rfl, hB⟩
  have hsz := beT_size n k
  have ht := leT_turned n k
  generalize hb : beT n k = b at *
  clear hb
  have HT : Hid _ := ht
  clear ht
  go_wp2_with fail
  refine (turned_spec b (by omega) _).mono ?_
  rintro e w2 ⟨rfl, hB2⟩
  rw [HT.out]
  go_wp2
  go_ret2
  exact ⟨rfl, hB.trans (hB2.mono hB.size)⟩

end S2
end Go.Proofs.YtjkamannjgcmiaaDoor

namespace Go.Proofs.YtjkamannjgcmiaaDoor
open Go.RowKit
set_option linter.unusedSimpArgs false
set_option linter.unusedVariables false
namespace S2



theorem ret_int {k : IntKind} {a b : Int} (h : a = b) : Ending.returned (.int k a) = .returned (.int k b) := by rw [h]

theorem take_bytes (s : ByteArray) (i : Nat) (h : i < s.size) : (bytesOf s).take (i + 1) = (bytesOf s).take i ++ [(s[i]'h).toNat] := by
  rw [List.take_succ_eq_append_getElem (by rw [bytesOf_length]; exact h), bytesOf_get s i h]

theorem take_lt (s : ByteArray) (i : Nat) : ∀ b ∈ (bytesOf s).take i, b < 256 := fun b hb => bytesOf_lt s b (List.mem_of_mem_take hb)

theorem val_take_lt (s : ByteArray) (i : Nat) (h : i ≤ s.size) : val ((bytesOf s).take i) < 256 ^ i := by
  have := val_lt _ (take_lt s i)
  rwa [List.length_take, bytesOf_length, Nat.min_eq_left h] at this

theorem pow_le_of (i j : Nat) (h : i ≤ j) : 256 ^ i ≤ 256 ^ j := Nat.pow_le_pow_right (by decide) h

theorem or_byte (v b : Nat) (hv : v < 72057594037927936) (hb : b < 256) : bits BinOp.or IntKind.u64 ((v : Int) * 256) (b : Int) = ((v * 256 + b : Nat) : Int) := by
  have e : (v : Int) * 256 = ((v * 256 : Nat) : Int) := by simp
  rw [e, u64_or_nat _ _ (by omega) (by omega), nat_join 8 _ _ (by omega) hb]

/-- n, or -1 if an int cannot be it. -/
def asI (n : Nat) : Int := if 9223372036854775808 ≤ n then -1 else n

theorem asInt_spec (n : Nat) (h : n < 18446744073709551616) (w : World) :
    Calls Tryd.prog 71 #[.int .u64 (n : Int)] w fun e w' => e = .returned (.int .i64 (asI n)) ∧ w' = w := by
  by_cases hg : 9223372036854775808 ≤ n
  · have e : asI n = -1 := by unfold asI; rw [if_pos hg]
    rw [e]
    clear e
    go_enter Tryd.func71, Tryd.ntmps71
    go_wp2
    go_ret
    exact ⟨rfl, rfl⟩
  · have e : asI n = n := by unfold asI; rw [if_neg hg]
    rw [e]
    clear e
    go_enter Tryd.func71, Tryd.ntmps71
    go_wp2
    go_ret
    exact ⟨ret_int (by first | rfl | omega), rfl⟩

theorem asI_fromBe (l : List Nat) (h : l.length ≤ 8) : asI (val l) = fromBe l := by
  unfold asI fromBe
  by_cases hg : 9223372036854775808 ≤ val l
  · rw [if_pos hg, if_pos (.inr hg)]
  · rw [if_neg hg, if_neg (by omega)]

theorem val_bytes_lt (s : ByteArray) (h : s.size ≤ 8) : val (bytesOf s) < 18446744073709551616 := by
  have h1 := val_lt _ (bytesOf_lt s)
  rw [bytesOf_length] at h1
  have := pow_le_of s.size 8 h
  omega

theorem or_high (v b i : Nat) (hv : v < 256 ^ i) (hb : b < 256) (hi : i ≤ 7) : bits BinOp.or IntKind.u64 (v : Int) (IntKind.u64.wrap ((b : Int) * 2 ^ (8 * i))) = ((b * 256 ^ i + v : Nat) : Int) := by
  have h1 : b * 256 ^ i ≤ 255 * 256 ^ i := Nat.mul_le_mul_right _ (by omega)
  have h2 := pow_le_of i 7 hi
  have e : ((2 : Int) ^ (8 * i)) = ((256 ^ i : Nat) : Int) := by rw [← pow8]; simp
  have e2 : (b : Int) * ((256 ^ i : Nat) : Int) = ((b * 256 ^ i : Nat) : Int) := by simp
  have e3 : IntKind.u64.wrap ((b * 256 ^ i : Nat) : Int) = ((b * 256 ^ i : Nat) : Int) := by rw [IntKind.wrap_u64]; omega
  rw [e, e2, e3, u64_or_nat _ _ (by omega) (by omega), Nat.or_comm]
  congr 1
  have := nat_join (8 * i) (b * 256 ^ i) v (by rw [pow8]; simp) (by rw [pow8]; exact hv)
  exact this

set_option maxRecDepth 20000 in
set_option maxHeartbeats 800000 in
theorem fromLe_spec (s : ByteArray) (hs : s.size ≤ 200000000000000) (w : World) :
    Calls Tryd.prog 59 #[.string s] w fun e w' => e = .returned (.int .i64 (fromBe (bytesOf s).reverse)) ∧ w' = w := by
  by_cases h8 : s.size ≤ 8
  · go_enter Tryd.func59, Tryd.ntmps59
    go_wp2
    go_loop [3, 10] (fun x t => ∃ (i v : Nat), i ≤ s.size ∧ v = val ((bytesOf s).take i).reverse ∧ x = .int .u64 (v : Int) ∧ t = .int .i64 (i : Int)) (fun _ t => s.size - (intOf t).toNat)
    case atStart => exact ⟨0, 0, Nat.zero_le _, rfl, rfl, rfl⟩
    case round =>
      obtain ⟨i, v, hi, hv, rfl, rfl⟩ := hrel
      by_cases hlt : i < s.size
      · have hb : v < 256 ^ i := by
          have := val_lt ((bytesOf s).take i).reverse (fun b hb => take_lt s i b (List.mem_reverse.1 hb))
          rw [List.length_reverse, List.length_take, bytesOf_length, Nat.min_eq_left hi] at this
          omega
        have hx : (s[i]'hlt).toNat < 256 := UInt8.toNat_lt _
        have HV : Hid ((s[i]'hlt).toNat * 256 ^ i + v = val ((bytesOf s).take (i + 1)).reverse) := by
          show _ = _
          rw [take_bytes s i hlt, List.reverse_append, List.reverse_singleton, List.singleton_append, val_cons, List.length_reverse, List.length_take, bytesOf_length, Nat.min_eq_left hi, ← hv]
        have hor := or_high v _ i hb hx (by omega)
        have HB : Hid (v < 256 ^ i) := hb
        clear hb hv
        go_wp2
        go_round
        case rel => exact ⟨i + 1, _, by omega, HV.out, by go_num, by go_num⟩
        case measure => simp [intOf]; omega
      · obtain rfl : i = s.size := by omega
        have HV : Hid (v = val (bytesOf s).reverse) := by
          show _ = _
          rw [hv, List.take_of_length_le (by rw [bytesOf_length]; exact Nat.le_refl _)]
        have hlt8 : v < 18446744073709551616 := by
          have := val_lt (bytesOf s).reverse (fun b hb => bytesOf_lt s b (List.mem_reverse.1 hb))
          rw [List.length_reverse, bytesOf_length] at this
          have h3 := pow_le_of s.size 8 h8
          rw [HV.out]
          omega
        have HA : Hid (asI v = fromBe (bytesOf s).reverse) := by
          show _ = _
          rw [HV.out, asI_fromBe _ (by rw [List.length_reverse, bytesOf_length]; exact h8)]
        clear hv
        go_wp2_with fail
        refine (asInt_spec v hlt8 _).mono ?_
        rintro e w1 ⟨rfl, rfl⟩
        rw [HA.out]
        go_wp2
        go_ret
        exact ⟨rfl, rfl⟩
  · rw [fromBe_long _ (by rw [List.length_reverse, bytesOf_length]; omega)]
    go_enter Tryd.func59, Tryd.ntmps59
    go_wp2
    go_ret
    exact ⟨rfl, rfl⟩

theorem val_take_le (l : List Nat) (i : Nat) : val (l.take i) ≤ val l := by
  conv => rhs; rw [← List.take_append_drop i l]
  rw [val_append]
  have : 0 < 256 ^ (l.drop i).length := Nat.pow_pos (by decide)
  have := Nat.le_mul_of_pos_right (val (l.take i)) this
  omega

theorem great_first (s : ByteArray) (h : s.size = 8) : 9223372036854775808 ≤ val (bytesOf s) ↔ 128 ≤ (s[0]'(by omega)).toNat := by
  have hl := bytesOf_length s
  have hg : (bytesOf s)[0]? = some (s[0]'(by omega)).toNat := by
    rw [List.getElem?_eq_getElem (by omega), bytesOf_get s 0 (by omega)]
  have hb := bytesOf_lt s
  generalize bytesOf s = l at *
  cases l with
  | nil => simp at hl; omega
  | cons b t =>
    rw [val_first b t (by simp at hl; omega) (fun x hx => hb x (by simp [hx]))]
    simp at hg
    rw [hg]

set_option maxRecDepth 20000 in
set_option maxHeartbeats 800000 in
theorem reffromBe_spec (s : ByteArray) (hs : s.size ≤ 200000000000000) (w : World) :
    Calls Tryd.prog 61 #[.string s] w fun e w' => e = .returned (.int .i64 (fromBe (bytesOf s))) ∧ w' = w := by
  by_cases h8 : s.size ≤ 8
  · by_cases hg : val (bytesOf s) < 9223372036854775808
    · rw [fromBe_of _ (by rw [bytesOf_length]; exact h8) hg]
      have hlp : ∀ (i v : Nat) (hlt : i < s.size), v = val ((bytesOf s).take i) → v * 256 + (s[i]'hlt).toNat = val ((bytesOf s).take (i + 1)) ∧ v * 256 + (s[i]'hlt).toNat < 9223372036854775808 := by
        intro i v hlt hv
        have e : v * 256 + (s[i]'hlt).toNat = val ((bytesOf s).take (i + 1)) := by rw [take_bytes s i hlt, val_snoc, ← hv]
        have := val_take_le (bytesOf s) (i + 1)
        exact ⟨e, by omega⟩
      have HG : Hid (val (bytesOf s) < 9223372036854775808) := hg
      by_cases e8 : s.size = 8
      · have hf : (s[0]'(by omega)).toNat < 128 := by
          have := great_first s e8
          omega
        clear hg
        go_enter Tryd.func61, Tryd.ntmps61
        go_wp2
        go_loop [3, 4] (fun x t => ∃ (i v : Nat), i ≤ s.size ∧ v = val ((bytesOf s).take i) ∧ x = .int .i64 (v : Int) ∧ t = .int .i64 (i : Int)) (fun _ t => s.size - (intOf t).toNat)
        case atStart => exact ⟨0, 0, Nat.zero_le _, rfl, rfl, rfl⟩
        case round =>
          obtain ⟨i, v, hi, hv, rfl, rfl⟩ := hrel
          by_cases hlt : i < s.size
          · have hp := hlp i v hlt hv
            have HV : Hid (v * 256 + (s[i]'hlt).toNat = val ((bytesOf s).take (i + 1))) := hp.1
            have hv2 := hp.2
            clear hp hv
            go_wp2
            go_round
            case rel => exact ⟨i + 1, _, by omega, HV.out, by go_num, by go_num⟩
            case measure => simp [intOf]; omega
          · obtain rfl : i = s.size := by omega
            have HV : Hid (v = val (bytesOf s)) := by
              show _ = _
              rw [hv, List.take_of_length_le (by rw [bytesOf_length]; exact Nat.le_refl _)]
            clear hv
            go_wp2
            go_ret
            exact ⟨ret_int (by rw [HV.out]), rfl⟩
      · have he8 : ((s.size : Int) == 8) = false := by simp; omega
        clear hg
        go_enter Tryd.func61, Tryd.ntmps61
        go_wp2
        go_loop [3, 4] (fun x t => ∃ (i v : Nat), i ≤ s.size ∧ v = val ((bytesOf s).take i) ∧ x = .int .i64 (v : Int) ∧ t = .int .i64 (i : Int)) (fun _ t => s.size - (intOf t).toNat)
        case atStart => exact ⟨0, 0, Nat.zero_le _, rfl, rfl, rfl⟩
        case round =>
          obtain ⟨i, v, hi, hv, rfl, rfl⟩ := hrel
          by_cases hlt : i < s.size
          · have hp := hlp i v hlt hv
            have HV : Hid (v * 256 + (s[i]'hlt).toNat = val ((bytesOf s).take (i + 1))) := hp.1
            have hv2 := hp.2
            clear hp hv
            go_wp2
            go_round
            case rel => exact ⟨i + 1, _, by omega, HV.out, by go_num, by go_num⟩
            case measure => simp [intOf]; omega
          · obtain rfl : i = s.size := by omega
            have HV : Hid (v = val (bytesOf s)) := by
              show _ = _
              rw [hv, List.take_of_length_le (by rw [bytesOf_length]; exact Nat.le_refl _)]
            clear hv
            go_wp2
            go_ret
            exact ⟨ret_int (by rw [HV.out]), rfl⟩
    · rw [fromBe_great _ (by omega)]
      have e8 : s.size = 8 := by
        have h1 := val_lt _ (bytesOf_lt s)
        rw [bytesOf_length] at h1
        by_cases h : s.size ≤ 7
        · have := pow_le_of s.size 7 h
          omega
        · omega
      have hf : 128 ≤ (s[0]'(by omega)).toNat := by
        have := great_first s e8
        omega
      clear hg
      go_enter Tryd.func61, Tryd.ntmps61
      go_wp2
      go_ret
      exact ⟨rfl, rfl⟩
  · rw [fromBe_long _ (by rw [bytesOf_length]; omega)]
    go_enter Tryd.func61, Tryd.ntmps61
    go_wp2
    go_ret
    exact ⟨rfl, rfl⟩

set_option maxRecDepth 20000 in
set_option maxHeartbeats 800000 in
theorem reffromLe_spec (s : ByteArray) (hs : s.size ≤ 200000000000000) (w : World) :
    Calls Tryd.prog 41 #[.string s] w fun e w' => e = .returned (.int .i64 (fromBe (bytesOf s).reverse)) ∧ Below w.heap.size w w' := by
  have hsz : (textOf (bytesOf s).reverse).size = s.size := by rw [textOf_size, List.length_reverse, bytesOf_length]
  have hb : bytesOf (textOf (bytesOf s).reverse) = (bytesOf s).reverse := bytesOf_textOf _ (fun b hb => bytesOf_lt s b (List.mem_reverse.1 hb))
  generalize ht : textOf (bytesOf s).reverse = t at *
  rw [← hb]
  have HT : Hid (textOf (bytesOf s).reverse = t) := ht
  clear ht hb
  go_enter Tryd.func41, Tryd.ntmps41
  go_wp2_with fail
  refine (turned_spec s hs _).mono ?_
  rintro e w1 ⟨rfl, hB⟩
  rw [HT.out]
  go_wp2_with fail
  refine (reffromBe_spec t (by omega) _).mono ?_
  rintro e w2 ⟨rfl, rfl⟩
  go_wp2
  go_ret
  exact ⟨rfl, hB⟩

end S2
end Go.Proofs.YtjkamannjgcmiaaDoor
