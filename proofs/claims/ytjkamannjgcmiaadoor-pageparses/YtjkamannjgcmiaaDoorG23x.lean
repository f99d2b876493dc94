/- Own text: registers of 32 bits. the walks of movedHigh, movedLow, moved. -/
import Derived.Test.YtjkamannjgcmiaaDoorG2x
import Derived.Test.YtjkamannjgcmiaaDoorRows
import Derived.Laws.BitsAllLaws
import Derived.Deep.OwnRows
import Derived.Deep.Draws
import Derived.Laws.BytesArg
import Derived.Laws.Bits64
import Derived.WalkKit
import Derived.WalkLawsBesides
import Derived.RegionTactic
import Derived.Deep.QuietTactic
import Derived.BigQuiet
import Derived.Outline
namespace Go.Proofs.YtjkamannjgcmiaaDoor
open Go.RowKit
set_option linter.unusedSimpArgs false
set_option linter.unusedVariables false
namespace S3


theorem lt32 (x : BitVec 32) : x.toNat < 4294967296 := x.isLt

theorem msb_div (x : BitVec 32) : x.toNat / 2147483648 = if x.msb then 1 else 0 := by
  rw [BitVec.msb_eq_decide]
  have := lt32 x
  by_cases h : 2147483648 ≤ x.toNat
  · have e : decide (2 ^ (32 - 1) ≤ x.toNat) = true := by simpa using h
    rw [e]
    simp
    omega
  · have e : decide (2 ^ (32 - 1) ≤ x.toNat) = false := by simpa using h
    rw [e]
    simp
    omega

/-- A step of a register, the highest bit first, in the machine's numbers. -/
theorem high_step (P x : BitVec 32) : bits .xor .u32 ((x.toNat : Int) * 2 % 4294967296) ((x.toNat : Int) / 2147483648 * (P.toNat : Int) % 4294967296) = ((bstep P x false).toNat : Int) := by
  have hx := lt32 x
  have hP := lt32 P
  have e1 : (x.toNat : Int) * 2 % 4294967296 = ((x.toNat * 2 % 4294967296 : Nat) : Int) := by simp
  have e2 : (x.toNat : Int) / 2147483648 * (P.toNat : Int) % 4294967296 = (((if x.msb then P.toNat else 0 : Nat)) : Int) := by
    have := msb_div x
    have e3 : (x.toNat : Int) / 2147483648 = ((x.toNat / 2147483648 : Nat) : Int) := by simp
    rw [e3, this]
    cases x.msb with
    | true => simp; omega
    | false => simp
  rw [e1, e2, u32_xor_nat _ _ (by omega) (by split <;> omega)]
  congr 1
  unfold bstep
  rw [BitVec.toNat_xor, BitVec.toNat_shiftLeft, Nat.shiftLeft_eq]
  cases x.msb <;> simp

/-- A step of a register, the lowest bit first. -/
theorem low_step (q x : BitVec 32) : bits .xor .u32 ((x.toNat : Int) / 2) (bits .and .u32 (x.toNat : Int) 1 * (q.toNat : Int) % 4294967296) = ((rstep q x).toNat : Int) := by
  have hx := lt32 x
  have hP := lt32 q
  have e1 : (x.toNat : Int) / 2 = ((x.toNat / 2 : Nat) : Int) := by simp
  have e0 : bits .and .u32 (x.toNat : Int) 1 = ((x.toNat % 2 : Nat) : Int) := by
    have := u32_and_nat x.toNat 1 hx (by decide)
    rw [Nat.and_one_is_mod] at this
    simpa using this
  have eb : x.toNat % 2 = if x.getLsbD 0 then 1 else 0 := by
    have hb : x.getLsbD 0 = decide (x.toNat % 2 = 1) := by
      simp only [BitVec.getLsbD, Nat.testBit_zero]
    rw [hb]
    rcases Nat.mod_two_eq_zero_or_one x.toNat with h | h <;> simp [h]
  have e2 : bits .and .u32 (x.toNat : Int) 1 * (q.toNat : Int) % 4294967296 = (((if x.getLsbD 0 then q.toNat else 0 : Nat)) : Int) := by
    rw [e0, eb]
    cases x.getLsbD 0 with
    | true => simp; omega
    | false => simp
  rw [e1, e2, u32_xor_nat _ _ (by omega) (by split <;> omega)]
  congr 1
  unfold rstep
  rw [BitVec.toNat_xor, BitVec.toNat_ushiftRight, Nat.shiftRight_eq_div_pow]
  cases x.getLsbD 0 <;> simp

def noBits : List Bool := [false, false, false, false, false, false, false, false]

/-- What a byte makes of a register of 0. -/
theorem byteStep_zero (P : BitVec 32) (b : Nat) (hb : b < 256) : bfold P (BitVec.ofNat 32 (b * 16777216)) noBits = byteStep P 0#32 b := by
  have h1 := byteStep_xor P 0#32 (BitVec.ofNat 32 (b * 16777216)) b b
  have h2 := byteStep_own P (BitVec.ofNat 32 (b * 16777216)) (by decide)
  have h3 : (BitVec.ofNat 32 (b * 16777216)).toNat / 2 ^ (32 - 8) % 256 = b := by
    rw [BitVec.toNat_ofNat]
    omega
  rw [h3] at h2
  have h4 : BitVec.ofNat 32 (b * 16777216) <<< 8 = 0#32 := by
    apply BitVec.eq_of_toNat_eq
    rw [BitVec.toNat_shiftLeft, BitVec.toNat_ofNat, Nat.shiftLeft_eq]
    simp
    omega
  rw [h2, h4, Nat.xor_self] at h1
  have h5 : bits8 0 = noBits := by decide
  have h6 : byteStep P (0#32 ^^^ BitVec.ofNat 32 (b * 16777216)) 0 = bfold P (BitVec.ofNat 32 (b * 16777216)) noBits := by
    unfold byteStep
    rw [h5, BitVec.zero_xor]
  rw [h6] at h1
  simpa using h1

theorem byteStep_zero_xor (P : BitVec 32) (a b : Nat) : byteStep P 0#32 (a ^^^ b) = byteStep P 0#32 a ^^^ byteStep P 0#32 b := by
  have := byteStep_xor P 0#32 0#32 a b
  simpa using this

theorem r8_ofNat_xor (q : BitVec 32) (a b : Nat) : r8 q (BitVec.ofNat 32 (a ^^^ b)) = r8 q (BitVec.ofNat 32 a) ^^^ r8 q (BitVec.ofNat 32 b) := by
  rw [← r8_xor]
  congr 1
  apply BitVec.eq_of_toNat_eq
  rw [BitVec.toNat_xor, BitVec.toNat_ofNat, BitVec.toNat_ofNat, BitVec.toNat_ofNat, Nat.xor_mod_two_pow]

section
variable {w : Nat}

/-- A narrow register in the high bits of a wide one. -/
theorem up_get (k : Nat) (x : BitVec w) (i : Nat) : (x ++ 0#k).getLsbD i = if i < k then false else x.getLsbD (i - k) := by
  rw [BitVec.getLsbD_append]
  split <;> simp

theorem bstep_up (k : Nat) (hw : 0 < w) (p n : BitVec w) (b : Bool) : bstep (p ++ 0#k) (n ++ 0#k) b = bstep p n b ++ 0#k := by
  have hm : (n ++ 0#k).msb = n.msb := by
    rw [BitVec.msb_append, if_neg (by omega)]
  unfold bstep
  rw [hm]
  apply BitVec.eq_of_getLsbD_eq
  intro i hi
  rw [up_get, BitVec.getLsbD_xor, BitVec.getLsbD_shiftLeft]
  by_cases hik : i < k
  · rw [if_pos hik]
    have : (if (n.msb != b) = true then p ++ 0#k else 0#(w + k)).getLsbD i = false := by
      split
      · rw [up_get, if_pos hik]
      · simp
    rw [this, up_get, if_pos (by omega)]
    simp
  · rw [if_neg hik, BitVec.getLsbD_xor, BitVec.getLsbD_shiftLeft]
    have : (if (n.msb != b) = true then p ++ 0#k else 0#(w + k)).getLsbD i = (if (n.msb != b) = true then p else 0#w).getLsbD (i - k) := by
      split
      · rw [up_get, if_neg hik]
      · simp
    rw [this, up_get]
    congr 1
    by_cases h0 : i = k
    · subst h0
      by_cases hi0 : i = 0
      · subst hi0
        simp
      · rw [if_pos (by omega)]
        simp
    · rw [if_neg (by omega)]
      have e1 : decide (i < w + k) = true := decide_eq_true hi
      have e2 : decide (i - k < w) = true := decide_eq_true (by omega)
      have e3 : decide (i < 1) = false := decide_eq_false (by omega)
      have e4 : decide (i - k < 1) = false := decide_eq_false (by omega)
      rw [e1, e2, e3, e4]
      congr 2
      omega

theorem bfold_up (k : Nat) (hw : 0 < w) (p : BitVec w) : ∀ (l : List Bool) (n : BitVec w), bfold (p ++ 0#k) (n ++ 0#k) l = bfold p n l ++ 0#k
  | [], _ => rfl
  | b :: l, n => by
    show bfold (p ++ 0#k) (bstep (p ++ 0#k) (n ++ 0#k) b) l = _
    rw [bstep_up k hw, bfold_up k hw p l]
    rfl

theorem crcL_up (k : Nat) (hw : 0 < w) (p : BitVec w) : ∀ (l : List Nat) (n : BitVec w), crcL (p ++ 0#k) (n ++ 0#k) l = crcL p n l ++ 0#k
  | [], _ => rfl
  | b :: l, n => by
    show crcL (p ++ 0#k) (bfold (p ++ 0#k) (n ++ 0#k) (bits8 b)) l = _
    rw [bfold_up k hw, crcL_up k hw p l]
    rfl
end

def P8 : BitVec 32 := 0x07000000#32
def P16 : BitVec 32 := 0x80050000#32

theorem crc8_up (l : List Nat) : (crcL P8 0#32 l).toNat / 16777216 = (crcL p8 0#8 l).toNat := by
  have h := crcL_up (w := 8) 24 (by decide) p8 l 0#8
  have e1 : crcL P8 0#32 l = crcL p8 0#8 l ++ 0#24 := by
    rw [← h]
    rfl
  rw [e1, BitVec.toNat_append]
  simp [Nat.shiftLeft_eq]

theorem crc16_up (l : List Nat) : (crcL P16 0#32 l).toNat / 65536 = (crcL p16 0#16 l).toNat := by
  have h := crcL_up (w := 16) 16 (by decide) p16 l 0#16
  have e1 : crcL P16 0#32 l = crcL p16 0#16 l ++ 0#16 := by
    rw [← h]
    rfl
  rw [e1, BitVec.toNat_append]
  simp [Nat.shiftLeft_eq]

/-- A byte added to a register, by a table. -/
theorem high_add (P x : BitVec 32) (b : Nat) (hb : b < 256) : bits .xor .u32 ((x.toNat : Int) * 256 % 4294967296) ((byteStep P 0#32 (x.toNat / 16777216 ^^^ b)).toNat : Int) = ((byteStep P x b).toNat : Int) := by
  have hx := lt32 x
  have e1 : (x.toNat : Int) * 256 % 4294967296 = ((x.toNat * 256 % 4294967296 : Nat) : Int) := by simp
  rw [e1, u32_xor_nat _ _ (by omega) (lt32 _), byteStep_table P x b (by decide), BitVec.toNat_xor, BitVec.toNat_shiftLeft, Nat.shiftLeft_eq]
  have e2 : x.toNat / 2 ^ (32 - 8) % 256 = x.toNat / 16777216 := by omega
  rw [e2]

theorem low_add (q x : BitVec 32) (b : Nat) (hb : b < 256) : bits .xor .u32 ((x.toNat : Int) / 256) ((r8 q (BitVec.ofNat 32 (x.toNat % 256 ^^^ b))).toNat : Int) = ((byteR q x b).toNat : Int) := by
  have hx := lt32 x
  have e1 : (x.toNat : Int) / 256 = ((x.toNat / 256 : Nat) : Int) := by simp
  rw [e1, u32_xor_nat _ _ (by omega) (lt32 _), byteR_table q x b hb (by decide), BitVec.toNat_xor, BitVec.toNat_ushiftRight, Nat.shiftRight_eq_div_pow]

end S3
end Go.Proofs.YtjkamannjgcmiaaDoor

namespace Go.Proofs.YtjkamannjgcmiaaDoor
open Go.RowKit
set_option linter.unusedSimpArgs false
set_option linter.unusedVariables false
namespace S3


theorem bfold_snoc (P c : BitVec 32) (i : Nat) : bfold P c (List.replicate (i + 1) false) = bstep P (bfold P c (List.replicate i false)) false := by
  rw [List.replicate_succ', bfold_append]
  rfl

set_option maxRecDepth 20000 in
set_option maxHeartbeats 800000 in
theorem movedHigh_spec (kd wd pol tn : Int) (lo : Bool) (h0 : 0 ≤ wd) (h32 : wd ≤ 32) (P c : BitVec 32) (hP : pol * 2 ^ (32 - wd).toNat % 4294967296 = (P.toNat : Int)) (w : World) :
    Calls Tryd.prog 83 #[.agg #[.int .i64 kd, .int .i64 wd, .int .u32 pol, .bool lo, .int .u32 tn], .int .u32 (c.toNat : Int)] w fun e w' => e = .returned (.int .u32 ((bfold P c noBits).toNat : Int)) ∧ Below w.heap.size w w' := by
  go_enter Tryd.func83, Tryd.ntmps83
  go_wp2
  go_loop [1, 6] (fun x t => ∃ (i : Nat) (r : BitVec 32), i ≤ 8 ∧ r = bfold P c (List.replicate i false) ∧ x = .int .u32 (r.toNat : Int) ∧ t = .int .i64 (i : Int)) (fun _ t => 8 - (intOf t).toNat)
  case atStart => exact ⟨0, c, Nat.zero_le _, rfl, rfl, rfl⟩
  case round =>
    obtain ⟨i, r, hi, hr, rfl, rfl⟩ := hrel
    by_cases hlt : i < 8
    · have HR : Hid (bstep P r false = bfold P c (List.replicate (i + 1) false)) := by
        show _ = _
        rw [bfold_snoc, ← hr]
      clear hr
      have HS := high_step P r
      have hrl := lt32 r
      go_wp2
      go_round
      case rel => exact ⟨i + 1, _, by omega, HR.out, rfl, by go_num⟩
      case measure => simp [intOf]; omega
    · have h8 : i = 8 := by omega
      have HR : Hid (r = bfold P c noBits) := by
        rw [h8] at hr
        exact hr
      clear hr h8
      go_wp2
      go_ret
      exact ⟨by rw [HR.out]; rfl, (Below.refl _ _).alloc (Nat.le_refl _) _⟩

theorem rN_snoc (q c : BitVec 32) (i : Nat) : rN q (i + 1) c = rstep q (rN q i c) := by
  induction i generalizing c with
  | zero => rfl
  | succ i ih =>
    first
      | rfl
      | (show rN q (i + 1) (rstep q c) = _
         rw [ih]
         rfl)

set_option maxRecDepth 20000 in
set_option maxHeartbeats 800000 in
theorem movedLow_spec (kd wd tn : Int) (lo : Bool) (q c : BitVec 32) (w : World) :
    Calls Tryd.prog 82 #[.agg #[.int .i64 kd, .int .i64 wd, .int .u32 (q.toNat : Int), .bool lo, .int .u32 tn], .int .u32 (c.toNat : Int)] w fun e w' => e = .returned (.int .u32 ((r8 q c).toNat : Int)) ∧ Below w.heap.size w w' := by
  go_enter Tryd.func82, Tryd.ntmps82
  go_wp2
  go_loop [1, 6] (fun x t => ∃ (i : Nat) (r : BitVec 32), i ≤ 8 ∧ r = rN q i c ∧ x = .int .u32 (r.toNat : Int) ∧ t = .int .i64 (i : Int)) (fun _ t => 8 - (intOf t).toNat)
  case atStart => exact ⟨0, c, Nat.zero_le _, rfl, rfl, rfl⟩
  case round =>
    obtain ⟨i, r, hi, hr, rfl, rfl⟩ := hrel
    by_cases hlt : i < 8
    · have HR : Hid (rstep q r = rN q (i + 1) c) := by
        show _ = _
        rw [rN_snoc, ← hr]
      clear hr
      have HS := low_step q r
      have hrl := lt32 r
      go_wp2
      go_round
      case rel => exact ⟨i + 1, _, by omega, HR.out, rfl, by go_num⟩
      case measure => simp [intOf]; omega
    · have h8 : i = 8 := by omega
      have HR : Hid (r = r8 q c) := by
        rw [h8] at hr
        exact hr.trans (r8_eq q c)
      clear hr h8
      go_wp2
      go_ret
      exact ⟨by rw [HR.out]; rfl, (Below.refl _ _).alloc (Nat.le_refl _) _⟩

theorem byte_high (P : BitVec 32) (b : Nat) (hb : b < 256) : ∃ c : BitVec 32, (b : Int) * 16777216 = (c.toNat : Int) ∧ byteStep P 0#32 b = bfold P c noBits := by
  have hl : b * 16777216 < 2 ^ 32 := by omega
  refine ⟨BitVec.ofNat 32 (b * 16777216), ?_, (byteStep_zero P b hb).symm⟩
  rw [BitVec.toNat_ofNat, Nat.mod_eq_of_lt hl]
  omega

set_option maxRecDepth 20000 in
set_option maxHeartbeats 800000 in
theorem movedOf_high (kd wd pol tn : Int) (h0 : 0 ≤ wd) (h32 : wd ≤ 32) (P : BitVec 32) (hP : pol * 2 ^ (32 - wd).toNat % 4294967296 = (P.toNat : Int)) (b : Nat) (hb : b < 256) (w : World) :
    Calls Tryd.prog 81 #[.agg #[.int .i64 kd, .int .i64 wd, .int .u32 pol, .bool false, .int .u32 tn], .int .u32 (b : Int)] w fun e w' => e = .returned (.int .u32 ((byteStep P 0#32 b).toNat : Int)) ∧ Below w.heap.size w w' := by
  obtain ⟨c, hc, he⟩ := byte_high P b hb
  rw [he]
  have HC : ∀ w, Calls Tryd.prog 83 #[.agg #[.int .i64 kd, .int .i64 wd, .int .u32 pol, .bool false, .int .u32 tn], .int .u32 (c.toNat : Int)] w fun e w' => e = .returned (.int .u32 ((bfold P c noBits).toNat : Int)) ∧ Below w.heap.size w w' := fun w => movedHigh_spec kd wd pol tn false h0 h32 P c hP w
  generalize bfold P c noBits = z at HC ⊢
  have HC' : Hid (∀ w, Calls Tryd.prog 83 #[.agg #[.int .i64 kd, .int .i64 wd, .int .u32 pol, .bool false, .int .u32 tn], .int .u32 (c.toNat : Int)] w fun e w' => e = .returned (.int .u32 (z.toNat : Int)) ∧ Below w.heap.size w w') := HC
  clear HC hP he
  generalize z.toNat = zn at HC' ⊢
  generalize c.toNat = cn at HC' hc
  go_enter Tryd.func81, Tryd.ntmps81
  go_wp2_with fail
  refine (HC'.out _).mono ?_
  rintro e w1 ⟨rfl, hB⟩
  have HB : Hid (Below w.heap.size w w1) := ((Below.refl w.heap.size w).alloc (Nat.le_refl _) _).trans (hB.mono (by simp))
  clear hB
  go_wp2
  go_ret
  exact ⟨rfl, HB.out⟩

set_option maxRecDepth 20000 in
set_option maxHeartbeats 800000 in
theorem movedOf_low (kd wd tn : Int) (q : BitVec 32) (b : Nat) (hb : b < 256) (w : World) :
    Calls Tryd.prog 81 #[.agg #[.int .i64 kd, .int .i64 wd, .int .u32 (q.toNat : Int), .bool true, .int .u32 tn], .int .u32 (b : Int)] w fun e w' => e = .returned (.int .u32 ((r8 q (BitVec.ofNat 32 b)).toNat : Int)) ∧ Below w.heap.size w w' := by
  have HC : ∀ w, Calls Tryd.prog 82 #[.agg #[.int .i64 kd, .int .i64 wd, .int .u32 (q.toNat : Int), .bool true, .int .u32 tn], .int .u32 (b : Int)] w fun e w' => e = .returned (.int .u32 ((r8 q (BitVec.ofNat 32 b)).toNat : Int)) ∧ Below w.heap.size w w' := by
    intro w
    have := movedLow_spec kd wd tn true q (BitVec.ofNat 32 b) w
    rwa [BitVec.toNat_ofNat, Nat.mod_eq_of_lt (by omega)] at this
  generalize (r8 q (BitVec.ofNat 32 b)).toNat = zn at HC ⊢
  generalize q.toNat = qn at HC ⊢
  have HC' : Hid (∀ w, Calls Tryd.prog 82 #[.agg #[.int .i64 kd, .int .i64 wd, .int .u32 (qn : Int), .bool true, .int .u32 tn], .int .u32 (b : Int)] w fun e w' => e = .returned (.int .u32 (zn : Int)) ∧ Below w.heap.size w w') := HC
  clear HC
  go_enter Tryd.func81, Tryd.ntmps81
  go_wp2_with fail
  refine (HC'.out _).mono ?_
  rintro e w1 ⟨rfl, hB⟩
  have HB : Hid (Below w.heap.size w w1) := ((Below.refl w.heap.size w).alloc (Nat.le_refl _) _).trans (hB.mono (by simp))
  clear hB
  go_wp2
  go_ret
  exact ⟨rfl, HB.out⟩

end S3
end Go.Proofs.YtjkamannjgcmiaaDoor
