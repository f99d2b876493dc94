/- Own text: the walks of FromBe. -/
import Derived.Test.YtfmpiidnemhijaaDoorS2lays
import Derived.WalkKit
namespace Go.Proofs.YtfmpiidnemhijaaDoor
open Go.RowKit
set_option linter.unusedSimpArgs false
set_option linter.unusedVariables false
namespace S2



theorem ret_int {k : IntKind} {a b : Int} (h : a = b) : Ending.returned (.int k a) = .returned (.int k b) := by rw [h]

theorem take_bytes (s : ByteArray) (i : Nat) (h : i < s.size) : (bytesOf s).take (i + 1) = (bytesOf s).take i ++ [(s[i]'h).toNat] := by
  rw [List.take_succ_eq_append_getElem (by rw [bytesOf_length]; exact h), bytesOf_get s i h]

theorem take_lt (s : ByteArray) (i : Nat) : ∀ b ∈ (bytesOf s).take i, b < 256 := fun b hb => bytesOf_lt s b (List.mem_of_mem_take hb)

theorem val_take_lt (s : ByteArray) (i : Nat) (h : i ≤ s.size) : val ((bytesOf s).take i) < 256 ^ i := by
  have := val_lt _ (take_lt s i)
  rwa [List.length_take, bytesOf_length, Nat.min_eq_left h] at this

theorem pow_le_of (i j : Nat) (h : i ≤ j) : 256 ^ i ≤ 256 ^ j := Nat.pow_le_pow_right (by decide) h

theorem or_byte (v b : Nat) (hv : v < 72057594037927936) (hb : b < 256) : bits BinOp.or IntKind.u64 ((v : Int) * 256) (b : Int) = ((v * 256 + b : Nat) : Int) := by
  have e : (v : Int) * 256 = ((v * 256 : Nat) : Int) := by simp
  rw [e, u64_or_nat _ _ (by omega) (by omega), nat_join 8 _ _ (by omega) hb]

set_option maxRecDepth 20000 in
set_option maxHeartbeats 800000 in
theorem fromHigh_spec (s : ByteArray) (hs : s.size ≤ 8) (w : World) :
    Calls Tryd.prog 72 #[.string s] w fun e w' => e = .returned (.int .u64 (val (bytesOf s) : Int)) ∧ w' = w := by
  go_enter Tryd.func72, Tryd.ntmps72
  go_wp2
  go_loop [3, 7] (fun x t => ∃ (i v : Nat), i ≤ s.size ∧ v = val ((bytesOf s).take i) ∧ x = .int .u64 (v : Int) ∧ t = .int .i64 (i : Int)) (fun _ t => s.size - (intOf t).toNat)
  case atStart => exact ⟨0, 0, Nat.zero_le _, rfl, rfl, rfl⟩
  case round =>
    obtain ⟨i, v, hi, hv, rfl, rfl⟩ := hrel
    by_cases hlt : i < s.size
    · have hb := val_take_lt s i hi
      have hp := pow_le_of i 7 (by omega)
      have hv2 : v < 72057594037927936 := by rw [hv]; omega
      have hx : (s[i]'hlt).toNat < 256 := UInt8.toNat_lt _
      have HV : Hid (v * 256 + (s[i]'hlt).toNat = val ((bytesOf s).take (i + 1))) := by
        show _ = _
        rw [take_bytes s i hlt, val_snoc, ← hv]
      have hor := or_byte v _ hv2 hx
      clear hb hp hv
      go_wp2
      go_round
      case rel => exact ⟨i + 1, _, by omega, HV.out, by go_num, by go_num⟩
      case measure => simp [intOf]; omega
    · obtain rfl : i = s.size := by omega
      have HV : Hid (v = val (bytesOf s)) := by
        show _ = _
        rw [hv, List.take_of_length_le (by rw [bytesOf_length]; exact Nat.le_refl _)]
      clear hv
      go_wp2
      go_ret
      exact ⟨ret_int (by rw [HV.out]), rfl⟩

/-- n, or -1 if an int cannot be it. -/
def asI (n : Nat) : Int := if 9223372036854775808 ≤ n then -1 else n

theorem asInt_spec (n : Nat) (h : n < 18446744073709551616) (w : World) :
    Calls Tryd.prog 71 #[.int .u64 (n : Int)] w fun e w' => e = .returned (.int .i64 (asI n)) ∧ w' = w := by
  by_cases hg : 9223372036854775808 ≤ n
  · have e : asI n = -1 := by unfold asI; rw [if_pos hg]
    rw [e]
    clear e
    go_enter Tryd.func71, Tryd.ntmps71
    go_wp2
    go_ret
    exact ⟨rfl, rfl⟩
  · have e : asI n = n := by unfold asI; rw [if_neg hg]
    rw [e]
    clear e
    go_enter Tryd.func71, Tryd.ntmps71
    go_wp2
    go_ret
    exact ⟨ret_int (by first | rfl | omega), rfl⟩

theorem asI_fromBe (l : List Nat) (h : l.length ≤ 8) : asI (val l) = fromBe l := by
  unfold asI fromBe
  by_cases hg : 9223372036854775808 ≤ val l
  · rw [if_pos hg, if_pos (.inr hg)]
  · rw [if_neg hg, if_neg (by omega)]

theorem val_bytes_lt (s : ByteArray) (h : s.size ≤ 8) : val (bytesOf s) < 18446744073709551616 := by
  have h1 := val_lt _ (bytesOf_lt s)
  rw [bytesOf_length] at h1
  have := pow_le_of s.size 8 h
  omega

set_option maxRecDepth 20000 in
set_option maxHeartbeats 800000 in
theorem fromBe_spec (s : ByteArray) (hs : s.size ≤ 200000000000000) (w : World) :
    Calls Tryd.prog 63 #[.string s] w fun e w' => e = .returned (.int .i64 (fromBe (bytesOf s))) ∧ w' = w := by
  by_cases h8 : s.size ≤ 8
  · go_enter Tryd.func63, Tryd.ntmps63
    go_wp2_with fail
    refine (fromHigh_spec s h8 _).mono ?_
    rintro e w1 ⟨rfl, rfl⟩
    go_wp2_with fail
    refine (asInt_spec _ (val_bytes_lt s h8) _).mono ?_
    rintro e w1 ⟨rfl, rfl⟩
    rw [asI_fromBe _ (by rw [bytesOf_length]; exact h8)]
    go_wp2
    go_ret
    exact ⟨rfl, rfl⟩
  · rw [fromBe_long _ (by rw [bytesOf_length]; omega)]
    go_enter Tryd.func63, Tryd.ntmps63
    go_wp2
    go_ret
    exact ⟨rfl, rfl⟩

theorem or_high (v b i : Nat) (hv : v < 256 ^ i) (hb : b < 256) (hi : i ≤ 7) : bits BinOp.or IntKind.u64 (v : Int) (IntKind.u64.wrap ((b : Int) * 2 ^ (8 * i))) = ((b * 256 ^ i + v : Nat) : Int) := by
  have h1 : b * 256 ^ i ≤ 255 * 256 ^ i := Nat.mul_le_mul_right _ (by omega)
  have h2 := pow_le_of i 7 hi
  have e : ((2 : Int) ^ (8 * i)) = ((256 ^ i : Nat) : Int) := by rw [← pow8]; simp
  have e2 : (b : Int) * ((256 ^ i : Nat) : Int) = ((b * 256 ^ i : Nat) : Int) := by simp
  have e3 : IntKind.u64.wrap ((b * 256 ^ i : Nat) : Int) = ((b * 256 ^ i : Nat) : Int) := by rw [IntKind.wrap_u64]; omega
  rw [e, e2, e3, u64_or_nat _ _ (by omega) (by omega), Nat.or_comm]
  congr 1
  have := nat_join (8 * i) (b * 256 ^ i) v (by rw [pow8]; simp) (by rw [pow8]; exact hv)
  exact this

theorem val_take_le (l : List Nat) (i : Nat) : val (l.take i) ≤ val l := by
  conv => rhs; rw [← List.take_append_drop i l]
  rw [val_append]
  have : 0 < 256 ^ (l.drop i).length := Nat.pow_pos (by decide)
  have := Nat.le_mul_of_pos_right (val (l.take i)) this
  omega

theorem great_first (s : ByteArray) (h : s.size = 8) : 9223372036854775808 ≤ val (bytesOf s) ↔ 128 ≤ (s[0]'(by omega)).toNat := by
  have hl := bytesOf_length s
  have hg : (bytesOf s)[0]? = some (s[0]'(by omega)).toNat := by
    rw [List.getElem?_eq_getElem (by omega), bytesOf_get s 0 (by omega)]
  have hb := bytesOf_lt s
  generalize bytesOf s = l at *
  cases l with
  | nil => simp at hl; omega
  | cons b t =>
    rw [val_first b t (by simp at hl; omega) (fun x hx => hb x (by simp [hx]))]
    simp at hg
    rw [hg]

set_option maxRecDepth 20000 in
set_option maxHeartbeats 800000 in
theorem reffromBe_spec (s : ByteArray) (hs : s.size ≤ 200000000000000) (w : World) :
    Calls Tryd.prog 33 #[.string s] w fun e w' => e = .returned (.int .i64 (fromBe (bytesOf s))) ∧ w' = w := by
  by_cases h8 : s.size ≤ 8
  · by_cases hg : val (bytesOf s) < 9223372036854775808
    · rw [fromBe_of _ (by rw [bytesOf_length]; exact h8) hg]
      have hlp : ∀ (i v : Nat) (hlt : i < s.size), v = val ((bytesOf s).take i) → v * 256 + (s[i]'hlt).toNat = val ((bytesOf s).take (i + 1)) ∧ v * 256 + (s[i]'hlt).toNat < 9223372036854775808 := by
        intro i v hlt hv
        have e : v * 256 + (s[i]'hlt).toNat = val ((bytesOf s).take (i + 1)) := by rw [take_bytes s i hlt, val_snoc, ← hv]
        have := val_take_le (bytesOf s) (i + 1)
        exact ⟨e, by omega⟩
      have HG : Hid (val (bytesOf s) < 9223372036854775808) := hg
      by_cases e8 : s.size = 8
      · have hf : (s[0]'(by omega)).toNat < 128 := by
          have := great_first s e8
          omega
        clear hg
        go_enter Tryd.func33, Tryd.ntmps33
        go_wp2
        go_loop [3, 4] (fun x t => ∃ (i v : Nat), i ≤ s.size ∧ v = val ((bytesOf s).take i) ∧ x = .int .i64 (v : Int) ∧ t = .int .i64 (i : Int)) (fun _ t => s.size - (intOf t).toNat)
        case atStart => exact ⟨0, 0, Nat.zero_le _, rfl, rfl, rfl⟩
        case round =>
          obtain ⟨i, v, hi, hv, rfl, rfl⟩ := hrel
          by_cases hlt : i < s.size
          · have hp := hlp i v hlt hv
            have HV : Hid (v * 256 + (s[i]'hlt).toNat = val ((bytesOf s).take (i + 1))) := hp.1
            have hv2 := hp.2
            clear hp hv
            go_wp2
            go_round
            case rel => exact ⟨i + 1, _, by omega, HV.out, by go_num, by go_num⟩
            case measure => simp [intOf]; omega
          · obtain rfl : i = s.size := by omega
            have HV : Hid (v = val (bytesOf s)) := by
              show _ = _
              rw [hv, List.take_of_length_le (by rw [bytesOf_length]; exact Nat.le_refl _)]
            clear hv
            go_wp2
            go_ret
            exact ⟨ret_int (by rw [HV.out]), rfl⟩
      · have he8 : ((s.size : Int) == 8) = false := by simp; omega
        clear hg
        go_enter Tryd.func33, Tryd.ntmps33
        go_wp2
        go_loop [3, 4] (fun x t => ∃ (i v : Nat), i ≤ s.size ∧ v = val ((bytesOf s).take i) ∧ x = .int .i64 (v : Int) ∧ t = .int .i64 (i : Int)) (fun _ t => s.size - (intOf t).toNat)
        case atStart => exact ⟨0, 0, Nat.zero_le _, rfl, rfl, rfl⟩
        case round =>
          obtain ⟨i, v, hi, hv, rfl, rfl⟩ := hrel
          by_cases hlt : i < s.size
          · have hp := hlp i v hlt hv
            have HV : Hid (v * 256 + (s[i]'hlt).toNat = val ((bytesOf s).take (i + 1))) := hp.1
            have hv2 := hp.2
            clear hp hv
            go_wp2
            go_round
            case rel => exact ⟨i + 1, _, by omega, HV.out, by go_num, by go_num⟩
            case measure => simp [intOf]; omega
          · obtain rfl : i = s.size := by omega
            have HV : Hid (v = val (bytesOf s)) := by
              show _ = _
              rw [hv, List.take_of_length_le (by rw [bytesOf_length]; exact Nat.le_refl _)]
            clear hv
            go_wp2
            go_ret
            exact ⟨ret_int (by rw [HV.out]), rfl⟩
    · rw [fromBe_great _ (by omega)]
      have e8 : s.size = 8 := by
        have h1 := val_lt _ (bytesOf_lt s)
        rw [bytesOf_length] at h1
        by_cases h : s.size ≤ 7
        · have := pow_le_of s.size 7 h
          omega
        · omega
      have hf : 128 ≤ (s[0]'(by omega)).toNat := by
        have := great_first s e8
        omega
      clear hg
      go_enter Tryd.func33, Tryd.ntmps33
      go_wp2
      go_ret
      exact ⟨rfl, rfl⟩
  · rw [fromBe_long _ (by rw [bytesOf_length]; omega)]
    go_enter Tryd.func33, Tryd.ntmps33
    go_wp2
    go_ret
    exact ⟨rfl, rfl⟩

end S2
end Go.Proofs.YtfmpiidnemhijaaDoor
