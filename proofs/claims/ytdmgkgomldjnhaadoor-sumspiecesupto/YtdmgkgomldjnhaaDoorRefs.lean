/- Own text: the walks of the document's sums, bit by bit. -/
import Derived.Test.YtdmgkgomldjnhaaDoorSums
namespace Go.Proofs.YtdmgkgomldjnhaaDoor
open Go.RowKit
set_option linter.unusedSimpArgs false
set_option linter.unusedVariables false

theorem and_pow (n i : Nat) : n &&& 2 ^ i = if n.testBit i then 2 ^ i else 0 := by
  apply Nat.eq_of_testBit_eq
  intro j
  rw [Nat.testBit_and, Nat.testBit_two_pow]
  by_cases h : i = j
  · subst h
    cases n.testBit i <;> simp
  · cases n.testBit i <;> simp [h]

theorem and_top (w : Nat) (T : Nat) (x : BitVec w) (hw : 0 < w) (h32 : w ≤ 32) (hT : T = 2 ^ (w - 1)) : bits .and .i64 (x.toNat : Int) (T : Int) = ((if x.msb then T else 0 : Nat) : Int) := by
  have hl : x.toNat < 2 ^ 32 := Nat.lt_of_lt_of_le x.isLt (Nat.pow_le_pow_right (by decide) h32)
  have hp : 2 ^ (w - 1) ≤ 2 ^ 31 := Nat.pow_le_pow_right (by decide) (by omega)
  rw [i64_and_nat _ _ (by omega) (by omega), hT, and_pow]
  have e : x.msb = x.toNat.testBit (w - 1) := by rw [BitVec.msb_eq_getLsbD_last]; rfl
  rw [e]

theorem shl_all (w A : Nat) (x : BitVec w) (h32 : w ≤ 32) (hA : A = 2 ^ w - 1) : bits .and .i64 ((x.toNat : Int) * 2) (A : Int) = ((x <<< 1).toNat : Int) := by
  have hl : x.toNat < 2 ^ 32 := Nat.lt_of_lt_of_le x.isLt (Nat.pow_le_pow_right (by decide) h32)
  have hp : 2 ^ w ≤ 2 ^ 32 := Nat.pow_le_pow_right (by decide) h32
  have e : (x.toNat : Int) * 2 = ((x.toNat * 2 : Nat) : Int) := by simp
  rw [e, i64_and_nat _ _ (by omega) (by omega), hA, Nat.and_two_pow_sub_one_eq_mod, BitVec.toNat_shiftLeft, Nat.shiftLeft_eq]

theorem bit_at (b k : Nat) (hb : b < 256) : bits .and .i64 (wrap64 ((b : Int) / 2 ^ k)) 1 = ((if b.testBit k then 1 else 0 : Nat) : Int) := by
  have e : (b : Int) / 2 ^ k = ((b / 2 ^ k : Nat) : Int) := by simp
  have hl : b / 2 ^ k ≤ b := Nat.div_le_self _ _
  have h := i64_and_nat (b / 2 ^ k) 1 (by omega) (by decide)
  rw [Nat.and_one_is_mod] at h
  rw [e]
  have e1 : ((1 : Nat) : Int) = 1 := rfl
  rw [e1] at h
  have e2 : wrap64 ((b / 2 ^ k : Nat) : Int) = ((b / 2 ^ k : Nat) : Int) := by
    generalize b / 2 ^ k = z at hl
    unfold wrap64
    omega
  rw [e2, h, Nat.testBit_eq_decide_div_mod_eq]
  rcases Nat.mod_two_eq_zero_or_one (b / 2 ^ k) with h | h <;> simp [h]

theorem bits8_snoc (b k : Nat) (hk : k < 8) : (bits8 b).take (8 - k) = (bits8 b).take (8 - (k + 1)) ++ [b.testBit k] := by
  unfold bits8
  rcases k with _ | _ | _ | _ | _ | _ | _ | _ | k
  · rfl
  · rfl
  · rfl
  · rfl
  · rfl
  · rfl
  · rfl
  · rfl
  · omega

section
variable {w : Nat}
theorem bfold_bit (p n : BitVec w) (b k : Nat) (hk : k < 8) : bfold p n ((bits8 b).take (8 - k)) = bstep p (bfold p n ((bits8 b).take (8 - (k + 1)))) (b.testBit k) := by
  rw [bits8_snoc b k hk, bfold_append]
  rfl
theorem bfold_all (p n : BitVec w) (b : Nat) : bfold p n ((bits8 b).take (8 - 0)) = byteStep p n b := rfl
theorem crcL_take (p n : BitVec w) (s : ByteArray) (i : Nat) (h : i < s.size) : crcL p n ((bytesOf s).take (i + 1)) = byteStep p (crcL p n ((bytesOf s).take i)) (s[i]'h).toNat := by
  rw [take_snoc s i h, crcL_append]
  rfl
end

set_option maxRecDepth 20000 in
set_option maxHeartbeats 4000000 in
theorem refSum_8 (s : ByteArray) (hs : s.size ≤ 200000000000000) (w : World) :
    Calls Tryd.prog 24 #[.string s, .int .i64 8, .int .i64 7] w fun e w' => e = .returned (.int .i64 (((crcL p8 0#8 (bytesOf s)).toNat : Nat) : Int)) ∧ w' = w := by
  go_enter Tryd.func24, Tryd.ntmps24
  go_wp2
  go_loop [9, 10] (fun n t => ∃ (i : Nat) (r : BitVec 8), i ≤ s.size ∧ r = crcL p8 0#8 ((bytesOf s).take i) ∧ n = .int .i64 (r.toNat : Int) ∧ t = .int .i64 (i : Int)) (fun _ t => s.size - (intOf t).toNat)
  case atStart => exact ⟨0, 0#8, Nat.zero_le _, rfl, rfl, rfl⟩
  case round =>
    obtain ⟨i, r0, hi, hr0, rfl, rfl⟩ := hrel
    by_cases hlt : i < s.size
    · have hx : (s[i]'hlt).toNat < 256 := UInt8.toNat_lt _
      have HR : Hid (byteStep p8 r0 (s[i]'hlt).toNat = crcL p8 0#8 ((bytesOf s).take (i + 1))) := by
        show _ = _
        rw [crcL_take, ← hr0]
      clear hr0
      go_wp2
      go_loop [9, 11] (fun n t => ∃ (m : Nat) (r : BitVec 8), m ≤ 8 ∧ r = bfold p8 r0 ((bits8 (s[i]'hlt).toNat).take (8 - m)) ∧ n = .int .i64 (r.toNat : Int) ∧ t = .int .i64 ((m : Int) - 1)) (fun _ t => (intOf t + 1).toNat)
      case atStart => exact ⟨8, r0, Nat.le_refl _, rfl, rfl, rfl⟩
      case round =>
        obtain ⟨m, r, hm, hr, rfl, rfl⟩ := hrel
        rcases m with _ | k
        · have HR2 : Hid (r = crcL p8 0#8 ((bytesOf s).take (i + 1))) := hr.trans HR.out
          clear hr
          go_wp2
          go_round
          case rel => exact ⟨i + 1, r, by omega, HR2.out, rfl, by go_num⟩
          case measure => simp [intOf]; omega
        · have ek : ((k + 1 : Nat) : Int) - 1 = (k : Int) := by omega
          rw [ek]
          clear ek
          have HB : Hid (bstep p8 r ((s[i]'hlt).toNat.testBit k) = bfold p8 r0 ((bits8 (s[i]'hlt).toNat).take (8 - k))) := by
            show _ = _
            rw [bfold_bit _ _ _ _ (by omega), ← hr]
          clear hr
          have hbit := bit_at (s[i]'hlt).toNat k hx
          have hmsb : bits .and .i64 (r.toNat : Int) 128 = ((if r.msb then 128 else 0 : Nat) : Int) := and_top 8 128 r (by decide) (by decide) (by decide)
          have hshl : bits .and .i64 ((r.toNat : Int) * 2) 255 = ((r <<< 1).toNat : Int) := shl_all 8 255 r (by decide) (by decide)
          have hrl : r.toNat < 256 := r.isLt
          have hsl : (r <<< 1).toNat < 256 := (r <<< 1).isLt
          have hxr : bits .xor .i64 ((r <<< 1).toNat : Int) 7 = (((r <<< 1).toNat ^^^ 7 : Nat) : Int) := i64_xor_nat (r <<< 1).toNat 7 (by omega) (by decide)
          have HY : Hid (∀ b : Bool, (bstep p8 r b).toNat = if r.msb != b then (r <<< 1).toNat ^^^ 7 else (r <<< 1).toNat) := by
            intro b
            unfold bstep
            rw [BitVec.toNat_xor]
            cases r.msb <;> cases b <;> simp [p8]
          generalize (s[i]'hlt).toNat.testBit k = bt at hbit HB
          generalize (r <<< 1).toNat = sl at *
          generalize r.msb = mb at *
          have hm2 := hmsb
          have hb2 := hbit
          clear hmsb hbit
          rcases bt with _ | _ <;> rcases mb with _ | _
          · have hbit : bits .and .i64 (wrap64 (((s[i]'hlt).toNat : Int) / 2 ^ k)) 1 = 0 := hb2
            have hmsb : bits .and .i64 (r.toNat : Int) 128 = 0 := hm2
            clear hb2 hm2
            go_wp2
            go_round
            case rel => exact ⟨k, _, by omega, HB.out, by rw [HY.out]; rfl, by go_num⟩
            case measure => simp [intOf]
          · have hbit : bits .and .i64 (wrap64 (((s[i]'hlt).toNat : Int) / 2 ^ k)) 1 = 0 := hb2
            have hmsb : bits .and .i64 (r.toNat : Int) 128 = 128 := hm2
            clear hb2 hm2
            go_wp2
            go_round
            case rel => exact ⟨k, _, by omega, HB.out, by rw [HY.out]; rfl, by go_num⟩
            case measure => simp [intOf]
          · have hbit : bits .and .i64 (wrap64 (((s[i]'hlt).toNat : Int) / 2 ^ k)) 1 = 1 := hb2
            have hmsb : bits .and .i64 (r.toNat : Int) 128 = 0 := hm2
            clear hb2 hm2
            go_wp2
            go_round
            case rel => exact ⟨k, _, by omega, HB.out, by rw [HY.out]; rfl, by go_num⟩
            case measure => simp [intOf]
          · have hbit : bits .and .i64 (wrap64 (((s[i]'hlt).toNat : Int) / 2 ^ k)) 1 = 1 := hb2
            have hmsb : bits .and .i64 (r.toNat : Int) 128 = 128 := hm2
            clear hb2 hm2
            go_wp2
            go_round
            case rel => exact ⟨k, _, by omega, HB.out, by rw [HY.out]; rfl, by go_num⟩
            case measure => simp [intOf]
    · have HR : Hid (r0 = crcL p8 0#8 (bytesOf s)) := by
        show _ = _
        rw [hr0, List.take_of_length_le (by rw [bytesOf_length]; omega)]
      clear hr0
      go_wp2
      go_ret
      exact ⟨by rw [← HR.out]; rfl, rfl⟩

set_option maxRecDepth 20000 in
set_option maxHeartbeats 4000000 in
theorem refSum_16 (s : ByteArray) (hs : s.size ≤ 200000000000000) (w : World) :
    Calls Tryd.prog 24 #[.string s, .int .i64 16, .int .i64 32773] w fun e w' => e = .returned (.int .i64 (((crcL p16 0#16 (bytesOf s)).toNat : Nat) : Int)) ∧ w' = w := by
  go_enter Tryd.func24, Tryd.ntmps24
  go_wp2
  go_loop [9, 10] (fun n t => ∃ (i : Nat) (r : BitVec 16), i ≤ s.size ∧ r = crcL p16 0#16 ((bytesOf s).take i) ∧ n = .int .i64 (r.toNat : Int) ∧ t = .int .i64 (i : Int)) (fun _ t => s.size - (intOf t).toNat)
  case atStart => exact ⟨0, 0#16, Nat.zero_le _, rfl, rfl, rfl⟩
  case round =>
    obtain ⟨i, r0, hi, hr0, rfl, rfl⟩ := hrel
    by_cases hlt : i < s.size
    · have hx : (s[i]'hlt).toNat < 256 := UInt8.toNat_lt _
      have HR : Hid (byteStep p16 r0 (s[i]'hlt).toNat = crcL p16 0#16 ((bytesOf s).take (i + 1))) := by
        show _ = _
        rw [crcL_take, ← hr0]
      clear hr0
      go_wp2
      go_loop [9, 11] (fun n t => ∃ (m : Nat) (r : BitVec 16), m ≤ 8 ∧ r = bfold p16 r0 ((bits8 (s[i]'hlt).toNat).take (8 - m)) ∧ n = .int .i64 (r.toNat : Int) ∧ t = .int .i64 ((m : Int) - 1)) (fun _ t => (intOf t + 1).toNat)
      case atStart => exact ⟨8, r0, Nat.le_refl _, rfl, rfl, rfl⟩
      case round =>
        obtain ⟨m, r, hm, hr, rfl, rfl⟩ := hrel
        rcases m with _ | k
        · have HR2 : Hid (r = crcL p16 0#16 ((bytesOf s).take (i + 1))) := hr.trans HR.out
          clear hr
          go_wp2
          go_round
          case rel => exact ⟨i + 1, r, by omega, HR2.out, rfl, by go_num⟩
          case measure => simp [intOf]; omega
        · have ek : ((k + 1 : Nat) : Int) - 1 = (k : Int) := by omega
          rw [ek]
          clear ek
          have HB : Hid (bstep p16 r ((s[i]'hlt).toNat.testBit k) = bfold p16 r0 ((bits8 (s[i]'hlt).toNat).take (8 - k))) := by
            show _ = _
            rw [bfold_bit _ _ _ _ (by omega), ← hr]
          clear hr
          have hbit := bit_at (s[i]'hlt).toNat k hx
          have hmsb : bits .and .i64 (r.toNat : Int) 32768 = ((if r.msb then 32768 else 0 : Nat) : Int) := and_top 16 32768 r (by decide) (by decide) (by decide)
          have hshl : bits .and .i64 ((r.toNat : Int) * 2) 65535 = ((r <<< 1).toNat : Int) := shl_all 16 65535 r (by decide) (by decide)
          have hrl : r.toNat < 65536 := r.isLt
          have hsl : (r <<< 1).toNat < 65536 := (r <<< 1).isLt
          have hxr : bits .xor .i64 ((r <<< 1).toNat : Int) 32773 = (((r <<< 1).toNat ^^^ 32773 : Nat) : Int) := i64_xor_nat (r <<< 1).toNat 32773 (by omega) (by decide)
          have HY : Hid (∀ b : Bool, (bstep p16 r b).toNat = if r.msb != b then (r <<< 1).toNat ^^^ 32773 else (r <<< 1).toNat) := by
            intro b
            unfold bstep
            rw [BitVec.toNat_xor]
            cases r.msb <;> cases b <;> simp [p16]
          generalize (s[i]'hlt).toNat.testBit k = bt at hbit HB
          generalize (r <<< 1).toNat = sl at *
          generalize r.msb = mb at *
          have hm2 := hmsb
          have hb2 := hbit
          clear hmsb hbit
          rcases bt with _ | _ <;> rcases mb with _ | _
          · have hbit : bits .and .i64 (wrap64 (((s[i]'hlt).toNat : Int) / 2 ^ k)) 1 = 0 := hb2
            have hmsb : bits .and .i64 (r.toNat : Int) 32768 = 0 := hm2
            clear hb2 hm2
            go_wp2
            go_round
            case rel => exact ⟨k, _, by omega, HB.out, by rw [HY.out]; rfl, by go_num⟩
            case measure => simp [intOf]
          · have hbit : bits .and .i64 (wrap64 (((s[i]'hlt).toNat : Int) / 2 ^ k)) 1 = 0 := hb2
            have hmsb : bits .and .i64 (r.toNat : Int) 32768 = 32768 := hm2
            clear hb2 hm2
            go_wp2
            go_round
            case rel => exact ⟨k, _, by omega, HB.out, by rw [HY.out]; rfl, by go_num⟩
            case measure => simp [intOf]
          · have hbit : bits .and .i64 (wrap64 (((s[i]'hlt).toNat : Int) / 2 ^ k)) 1 = 1 := hb2
            have hmsb : bits .and .i64 (r.toNat : Int) 32768 = 0 := hm2
            clear hb2 hm2
            go_wp2
            go_round
            case rel => exact ⟨k, _, by omega, HB.out, by rw [HY.out]; rfl, by go_num⟩
            case measure => simp [intOf]
          · have hbit : bits .and .i64 (wrap64 (((s[i]'hlt).toNat : Int) / 2 ^ k)) 1 = 1 := hb2
            have hmsb : bits .and .i64 (r.toNat : Int) 32768 = 32768 := hm2
            clear hb2 hm2
            go_wp2
            go_round
            case rel => exact ⟨k, _, by omega, HB.out, by rw [HY.out]; rfl, by go_num⟩
            case measure => simp [intOf]
    · have HR : Hid (r0 = crcL p16 0#16 (bytesOf s)) := by
        show _ = _
        rw [hr0, List.take_of_length_le (by rw [bytesOf_length]; omega)]
      clear hr0
      go_wp2
      go_ret
      exact ⟨by rw [← HR.out]; rfl, rfl⟩

set_option maxRecDepth 20000 in
set_option maxHeartbeats 4000000 in
theorem refSum_32 (s : ByteArray) (hs : s.size ≤ 200000000000000) (w : World) :
    Calls Tryd.prog 24 #[.string s, .int .i64 32, .int .i64 79764919] w fun e w' => e = .returned (.int .i64 (((crcL p32 0#32 (bytesOf s)).toNat : Nat) : Int)) ∧ w' = w := by
  go_enter Tryd.func24, Tryd.ntmps24
  go_wp2
  go_loop [9, 10] (fun n t => ∃ (i : Nat) (r : BitVec 32), i ≤ s.size ∧ r = crcL p32 0#32 ((bytesOf s).take i) ∧ n = .int .i64 (r.toNat : Int) ∧ t = .int .i64 (i : Int)) (fun _ t => s.size - (intOf t).toNat)
  case atStart => exact ⟨0, 0#32, Nat.zero_le _, rfl, rfl, rfl⟩
  case round =>
    obtain ⟨i, r0, hi, hr0, rfl, rfl⟩ := hrel
    by_cases hlt : i < s.size
    · have hx : (s[i]'hlt).toNat < 256 := UInt8.toNat_lt _
      have HR : Hid (byteStep p32 r0 (s[i]'hlt).toNat = crcL p32 0#32 ((bytesOf s).take (i + 1))) := by
        show _ = _
        rw [crcL_take, ← hr0]
      clear hr0
      go_wp2
      go_loop [9, 11] (fun n t => ∃ (m : Nat) (r : BitVec 32), m ≤ 8 ∧ r = bfold p32 r0 ((bits8 (s[i]'hlt).toNat).take (8 - m)) ∧ n = .int .i64 (r.toNat : Int) ∧ t = .int .i64 ((m : Int) - 1)) (fun _ t => (intOf t + 1).toNat)
      case atStart => exact ⟨8, r0, Nat.le_refl _, rfl, rfl, rfl⟩
      case round =>
        obtain ⟨m, r, hm, hr, rfl, rfl⟩ := hrel
        rcases m with _ | k
        · have HR2 : Hid (r = crcL p32 0#32 ((bytesOf s).take (i + 1))) := hr.trans HR.out
          clear hr
          go_wp2
          go_round
          case rel => exact ⟨i + 1, r, by omega, HR2.out, rfl, by go_num⟩
          case measure => simp [intOf]; omega
        · have ek : ((k + 1 : Nat) : Int) - 1 = (k : Int) := by omega
          rw [ek]
          clear ek
          have HB : Hid (bstep p32 r ((s[i]'hlt).toNat.testBit k) = bfold p32 r0 ((bits8 (s[i]'hlt).toNat).take (8 - k))) := by
            show _ = _
            rw [bfold_bit _ _ _ _ (by omega), ← hr]
          clear hr
          have hbit := bit_at (s[i]'hlt).toNat k hx
          have hmsb : bits .and .i64 (r.toNat : Int) 2147483648 = ((if r.msb then 2147483648 else 0 : Nat) : Int) := and_top 32 2147483648 r (by decide) (by decide) (by decide)
          have hshl : bits .and .i64 ((r.toNat : Int) * 2) 4294967295 = ((r <<< 1).toNat : Int) := shl_all 32 4294967295 r (by decide) (by decide)
          have hrl : r.toNat < 4294967296 := r.isLt
          have hsl : (r <<< 1).toNat < 4294967296 := (r <<< 1).isLt
          have hxr : bits .xor .i64 ((r <<< 1).toNat : Int) 79764919 = (((r <<< 1).toNat ^^^ 79764919 : Nat) : Int) := i64_xor_nat (r <<< 1).toNat 79764919 (by omega) (by decide)
          have HY : Hid (∀ b : Bool, (bstep p32 r b).toNat = if r.msb != b then (r <<< 1).toNat ^^^ 79764919 else (r <<< 1).toNat) := by
            intro b
            unfold bstep
            rw [BitVec.toNat_xor]
            cases r.msb <;> cases b <;> simp [p32]
          generalize (s[i]'hlt).toNat.testBit k = bt at hbit HB
          generalize (r <<< 1).toNat = sl at *
          generalize r.msb = mb at *
          have hm2 := hmsb
          have hb2 := hbit
          clear hmsb hbit
          rcases bt with _ | _ <;> rcases mb with _ | _
          · have hbit : bits .and .i64 (wrap64 (((s[i]'hlt).toNat : Int) / 2 ^ k)) 1 = 0 := hb2
            have hmsb : bits .and .i64 (r.toNat : Int) 2147483648 = 0 := hm2
            clear hb2 hm2
            go_wp2
            go_round
            case rel => exact ⟨k, _, by omega, HB.out, by rw [HY.out]; rfl, by go_num⟩
            case measure => simp [intOf]
          · have hbit : bits .and .i64 (wrap64 (((s[i]'hlt).toNat : Int) / 2 ^ k)) 1 = 0 := hb2
            have hmsb : bits .and .i64 (r.toNat : Int) 2147483648 = 2147483648 := hm2
            clear hb2 hm2
            go_wp2
            go_round
            case rel => exact ⟨k, _, by omega, HB.out, by rw [HY.out]; rfl, by go_num⟩
            case measure => simp [intOf]
          · have hbit : bits .and .i64 (wrap64 (((s[i]'hlt).toNat : Int) / 2 ^ k)) 1 = 1 := hb2
            have hmsb : bits .and .i64 (r.toNat : Int) 2147483648 = 0 := hm2
            clear hb2 hm2
            go_wp2
            go_round
            case rel => exact ⟨k, _, by omega, HB.out, by rw [HY.out]; rfl, by go_num⟩
            case measure => simp [intOf]
          · have hbit : bits .and .i64 (wrap64 (((s[i]'hlt).toNat : Int) / 2 ^ k)) 1 = 1 := hb2
            have hmsb : bits .and .i64 (r.toNat : Int) 2147483648 = 2147483648 := hm2
            clear hb2 hm2
            go_wp2
            go_round
            case rel => exact ⟨k, _, by omega, HB.out, by rw [HY.out]; rfl, by go_num⟩
            case measure => simp [intOf]
    · have HR : Hid (r0 = crcL p32 0#32 (bytesOf s)) := by
        show _ = _
        rw [hr0, List.take_of_length_le (by rw [bytesOf_length]; omega)]
      clear hr0
      go_wp2
      go_ret
      exact ⟨by rw [← HR.out]; rfl, rfl⟩

set_option maxRecDepth 20000 in
set_option maxHeartbeats 400000 in
theorem refCrc8_spec (s : ByteArray) (hs : s.size ≤ 200000000000000) (w : World) : Calls Tryd.prog 9 #[.string s] w fun e w' => e = .returned (.int .i64 (c8 s : Int)) ∧ w' = w := by
  have HC : Hid (∀ w, Calls Tryd.prog 24 #[.string s, .int .i64 8, .int .i64 7] w fun e w' => e = .returned (.int .i64 (c8 s : Int)) ∧ w' = w) := fun w => refSum_8 s hs w
  generalize c8 s = v at HC ⊢
  go_enter Tryd.func9, Tryd.ntmps9
  go_wp2_with fail
  refine (HC.out w).mono ?_
  rintro e w1 ⟨rfl, rfl⟩
  go_wp2
  go_ret
  exact ⟨rfl, rfl⟩

set_option maxRecDepth 20000 in
set_option maxHeartbeats 400000 in
theorem refCrc16_spec (s : ByteArray) (hs : s.size ≤ 200000000000000) (w : World) : Calls Tryd.prog 11 #[.string s] w fun e w' => e = .returned (.int .i64 (c16 s : Int)) ∧ w' = w := by
  have HC : Hid (∀ w, Calls Tryd.prog 24 #[.string s, .int .i64 16, .int .i64 32773] w fun e w' => e = .returned (.int .i64 (c16 s : Int)) ∧ w' = w) := fun w => refSum_16 s hs w
  generalize c16 s = v at HC ⊢
  go_enter Tryd.func11, Tryd.ntmps11
  go_wp2_with fail
  refine (HC.out w).mono ?_
  rintro e w1 ⟨rfl, rfl⟩
  go_wp2
  go_ret
  exact ⟨rfl, rfl⟩

set_option maxRecDepth 20000 in
set_option maxHeartbeats 400000 in
theorem refOgg_spec (s : ByteArray) (hs : s.size ≤ 200000000000000) (w : World) : Calls Tryd.prog 13 #[.string s] w fun e w' => e = .returned (.int .i64 (c32 s : Int)) ∧ w' = w := by
  have HC : Hid (∀ w, Calls Tryd.prog 24 #[.string s, .int .i64 32, .int .i64 79764919] w fun e w' => e = .returned (.int .i64 (c32 s : Int)) ∧ w' = w) := fun w => refSum_32 s hs w
  generalize c32 s = v at HC ⊢
  go_enter Tryd.func13, Tryd.ntmps13
  go_wp2_with fail
  refine (HC.out w).mono ?_
  rintro e w1 ⟨rfl, rfl⟩
  go_wp2
  go_ret
  exact ⟨rfl, rfl⟩

theorem rN_succ (q c : BitVec 32) (i : Nat) : rN q (i + 1) c = rstep q (rN q i c) := rN_snoc q c i

theorem r_odd (q x : BitVec 32) (h : x.getLsbD 0 = true) : bits .and .i64 (x.toNat : Int) 1 = 1 ∧ ∀ Q : Nat, Q = q.toNat → bits .xor .i64 ((x.toNat : Int) / 2) (Q : Int) = ((rstep q x).toNat : Int) := by
  have hx := lt32 x
  have hq := lt32 q
  have h1 : x.toNat % 2 = 1 := by
    simp only [BitVec.getLsbD, Nat.testBit_zero, decide_eq_true_eq] at h
    exact h
  constructor
  · have := i64_and_nat x.toNat 1 (by omega) (by decide)
    rw [Nat.and_one_is_mod, h1] at this
    exact this
  · rintro Q rfl
    have e : (x.toNat : Int) / 2 = ((x.toNat / 2 : Nat) : Int) := by simp
    rw [e, i64_xor_nat _ _ (by omega) (by omega)]
    unfold rstep
    rw [h, BitVec.toNat_xor, BitVec.toNat_ushiftRight, Nat.shiftRight_eq_div_pow]
    simp

theorem r_even (q x : BitVec 32) (h : x.getLsbD 0 = false) : bits .and .i64 (x.toNat : Int) 1 = 0 ∧ (x.toNat : Int) / 2 = ((rstep q x).toNat : Int) := by
  have hx := lt32 x
  have h1 : x.toNat % 2 = 0 := by
    simp only [BitVec.getLsbD, Nat.testBit_zero, decide_eq_false_iff_not] at h
    omega
  constructor
  · have := i64_and_nat x.toNat 1 (by omega) (by decide)
    rw [Nat.and_one_is_mod, h1] at this
    exact this
  · unfold rstep
    rw [h, BitVec.toNat_xor, BitVec.toNat_ushiftRight, Nat.shiftRight_eq_div_pow]
    simp

theorem crcR_take (p n : BitVec 32) (s : ByteArray) (i : Nat) (h : i < s.size) : crcR p n ((bytesOf s).take (i + 1)) = r8 p (crcR p n ((bytesOf s).take i) ^^^ BitVec.ofNat 32 (s[i]'h).toNat) := by
  rw [take_snoc s i h, crcR_append]
  rfl

set_option maxRecDepth 20000 in
set_option maxHeartbeats 4000000 in
theorem refCrc32_spec (s : ByteArray) (hs : s.size ≤ 200000000000000) (w : World) :
    Calls Tryd.prog 15 #[.string s] w fun e w' => e = .returned (.int .i64 (c33 s : Int)) ∧ w' = w := by
  go_enter Tryd.func15, Tryd.ntmps15
  go_wp2
  go_loop [3, 4] (fun n t => ∃ (i : Nat) (r : BitVec 32), i ≤ s.size ∧ r = crcR q32 0xFFFFFFFF#32 ((bytesOf s).take i) ∧ n = .int .i64 (r.toNat : Int) ∧ t = .int .i64 (i : Int)) (fun _ t => s.size - (intOf t).toNat)
  case atStart => exact ⟨0, 0xFFFFFFFF#32, Nat.zero_le _, rfl, rfl, rfl⟩
  case round =>
    obtain ⟨i, r0, hi, hr0, rfl, rfl⟩ := hrel
    have hr0l := lt32 r0
    by_cases hlt : i < s.size
    · have hx : (s[i]'hlt).toNat < 256 := UInt8.toNat_lt _
      have HR : Hid (rN q32 8 (r0 ^^^ BitVec.ofNat 32 (s[i]'hlt).toNat) = crcR q32 0xFFFFFFFF#32 ((bytesOf s).take (i + 1))) := by
        show _ = _
        rw [crcR_take, ← hr0, r8_eq]
      clear hr0
      have hxr : bits .xor .i64 (r0.toNat : Int) ((s[i]'hlt).toNat : Int) = ((r0 ^^^ BitVec.ofNat 32 (s[i]'hlt).toNat).toNat : Int) := by
        rw [i64_xor_nat _ _ (by omega) (by omega), BitVec.toNat_xor, BitVec.toNat_ofNat, Nat.mod_eq_of_lt (by omega : (s[i]'hlt).toNat < 2 ^ 32)]
      generalize r0 ^^^ BitVec.ofNat 32 (s[i]'hlt).toNat = x0 at *
      go_wp2
      go_loop [3, 5] (fun n t => ∃ (j : Nat) (r : BitVec 32), j ≤ 8 ∧ r = rN q32 j x0 ∧ n = .int .i64 (r.toNat : Int) ∧ t = .int .i64 (j : Int)) (fun _ t => 8 - (intOf t).toNat)
      case atStart => exact ⟨0, x0, Nat.zero_le _, rfl, rfl, rfl⟩
      case round =>
        obtain ⟨j, r, hj, hr, rfl, rfl⟩ := hrel
        have hrl := lt32 r
        by_cases hj8 : j < 8
        · have HB : Hid (rstep q32 r = rN q32 (j + 1) x0) := by
            show _ = _
            rw [rN_succ, ← hr]
          clear hr
          cases hb : r.getLsbD 0
          · obtain ⟨e1, e2⟩ := r_even q32 r hb
            clear hb
            go_wp2
            go_round
            case rel => exact ⟨j + 1, _, by omega, HB.out, by rfl, by go_num⟩
            case measure => simp [intOf]; omega
          · obtain ⟨e1, e2⟩ := r_odd q32 r hb
            have e3 : bits .xor .i64 ((r.toNat : Int) / 2) 3988292384 = ((rstep q32 r).toNat : Int) := e2 3988292384 (by decide)
            clear hb e2
            go_wp2
            go_round
            case rel => exact ⟨j + 1, _, by omega, HB.out, by rfl, by go_num⟩
            case measure => simp [intOf]; omega
        · have h8 : j = 8 := by omega
          have HR2 : Hid (r = crcR q32 0xFFFFFFFF#32 ((bytesOf s).take (i + 1))) := by
            rw [h8] at hr
            exact hr.trans HR.out
          clear hr h8
          go_wp2
          go_round
          case rel => exact ⟨i + 1, r, by omega, HR2.out, rfl, by go_num⟩
          case measure => simp [intOf]; omega
    · have HR : Hid (r0 = crcR q32 0xFFFFFFFF#32 (bytesOf s)) := by
        show _ = _
        rw [hr0, List.take_of_length_le (by rw [bytesOf_length]; omega)]
      clear hr0
      have hxr : bits .xor .i64 (r0.toNat : Int) 4294967295 = ((r0.toNat ^^^ 4294967295 : Nat) : Int) := i64_xor_nat r0.toNat 4294967295 (by omega) (by decide)
      go_wp2
      go_ret
      exact ⟨by unfold c33; rw [← HR.out]; rfl, rfl⟩

set_option maxRecDepth 20000 in
set_option maxHeartbeats 400000 in
theorem of_8 (s : ByteArray) (hs : s.size ≤ 200000000000000) (w : World) : Calls Tryd.prog 18 #[.int .i64 8, .string s] w fun e w' => e = .returned (.tuple #[.int .i64 (c8 s : Int), .bool true]) ∧ w' = w := by
  have HC : Hid (∀ w, Calls Tryd.prog 9 #[.string s] w fun e w' => e = .returned (.int .i64 (c8 s : Int)) ∧ w' = w) := fun w => refCrc8_spec s hs w
  generalize c8 s = v at HC ⊢
  go_enter Tryd.func18, Tryd.ntmps18
  go_wp2_with fail
  refine (HC.out w).mono ?_
  rintro e w1 ⟨rfl, rfl⟩
  go_wp2
  go_ret2
  exact ⟨rfl, rfl⟩

set_option maxRecDepth 20000 in
set_option maxHeartbeats 400000 in
theorem of_16 (s : ByteArray) (hs : s.size ≤ 200000000000000) (w : World) : Calls Tryd.prog 18 #[.int .i64 16, .string s] w fun e w' => e = .returned (.tuple #[.int .i64 (c16 s : Int), .bool true]) ∧ w' = w := by
  have HC : Hid (∀ w, Calls Tryd.prog 11 #[.string s] w fun e w' => e = .returned (.int .i64 (c16 s : Int)) ∧ w' = w) := fun w => refCrc16_spec s hs w
  generalize c16 s = v at HC ⊢
  go_enter Tryd.func18, Tryd.ntmps18
  go_wp2_with fail
  refine (HC.out w).mono ?_
  rintro e w1 ⟨rfl, rfl⟩
  go_wp2
  go_ret2
  exact ⟨rfl, rfl⟩

set_option maxRecDepth 20000 in
set_option maxHeartbeats 400000 in
theorem of_32 (s : ByteArray) (hs : s.size ≤ 200000000000000) (w : World) : Calls Tryd.prog 18 #[.int .i64 32, .string s] w fun e w' => e = .returned (.tuple #[.int .i64 (c32 s : Int), .bool true]) ∧ w' = w := by
  have HC : Hid (∀ w, Calls Tryd.prog 13 #[.string s] w fun e w' => e = .returned (.int .i64 (c32 s : Int)) ∧ w' = w) := fun w => refOgg_spec s hs w
  generalize c32 s = v at HC ⊢
  go_enter Tryd.func18, Tryd.ntmps18
  go_wp2_with fail
  refine (HC.out w).mono ?_
  rintro e w1 ⟨rfl, rfl⟩
  go_wp2
  go_ret2
  exact ⟨rfl, rfl⟩

set_option maxRecDepth 20000 in
set_option maxHeartbeats 400000 in
theorem of_33 (s : ByteArray) (hs : s.size ≤ 200000000000000) (w : World) : Calls Tryd.prog 18 #[.int .i64 33, .string s] w fun e w' => e = .returned (.tuple #[.int .i64 (c33 s : Int), .bool true]) ∧ w' = w := by
  have HC : Hid (∀ w, Calls Tryd.prog 15 #[.string s] w fun e w' => e = .returned (.int .i64 (c33 s : Int)) ∧ w' = w) := fun w => refCrc32_spec s hs w
  generalize c33 s = v at HC ⊢
  go_enter Tryd.func18, Tryd.ntmps18
  go_wp2_with fail
  refine (HC.out w).mono ?_
  rintro e w1 ⟨rfl, rfl⟩
  go_wp2
  go_ret2
  exact ⟨rfl, rfl⟩

set_option maxRecDepth 20000 in
set_option maxHeartbeats 400000 in
theorem of_none (k : Int) (h8 : ¬ k = 8) (h16 : ¬ k = 16) (h32 : ¬ k = 32) (h33 : ¬ k = 33) (s : ByteArray) (w : World) : Calls Tryd.prog 18 #[.int .i64 k, .string s] w fun e w' => e = .returned (.tuple #[.int .i64 0, .bool false]) ∧ w' = w := by
  go_enter Tryd.func18, Tryd.ntmps18
  go_wp2
  go_ret2
  exact ⟨rfl, rfl⟩

end Go.Proofs.YtdmgkgomldjnhaaDoor
