/- Own text: the walks of a rule's methods 'movedHigh', 'movedLow', 'moved'. -/
import Derived.Test.YtdmgkgomldjnhaaDoorRows
import Derived.Test.YtdmgkgomldjnhaaDoorReg
import Derived.Deep.OwnRows
import Derived.Deep.Draws
import Derived.Laws.BytesArg
import Derived.Laws.Bits64
import Derived.Laws.BitsAllLaws
import Derived.WalkKit
import Derived.WalkLawsBesides
import Derived.RegionTactic
import Derived.Deep.QuietTactic
import Derived.BigQuiet
import Derived.Outline
namespace Go.Proofs.YtdmgkgomldjnhaaDoor
open Go.RowKit
set_option linter.unusedSimpArgs false
set_option linter.unusedVariables false

theorem bfold_snoc (P c : BitVec 32) (i : Nat) : bfold P c (List.replicate (i + 1) false) = bstep P (bfold P c (List.replicate i false)) false := by
  rw [List.replicate_succ', bfold_append]
  rfl

set_option maxRecDepth 20000 in
set_option maxHeartbeats 800000 in
theorem movedHigh_spec (kd wd pol tn : Int) (lo : Bool) (h0 : 0 ≤ wd) (h32 : wd ≤ 32) (P c : BitVec 32) (hP : pol * 2 ^ (32 - wd).toNat % 4294967296 = (P.toNat : Int)) (w : World) :
    Calls Tryd.prog 31 #[.agg #[.int .i64 kd, .int .i64 wd, .int .u32 pol, .bool lo, .int .u32 tn], .int .u32 (c.toNat : Int)] w fun e w' => e = .returned (.int .u32 ((bfold P c noBits).toNat : Int)) ∧ Below w.heap.size w w' := by
  go_enter Tryd.func31, Tryd.ntmps31
  go_wp2
  go_loop [1, 6] (fun x t => ∃ (i : Nat) (r : BitVec 32), i ≤ 8 ∧ r = bfold P c (List.replicate i false) ∧ x = .int .u32 (r.toNat : Int) ∧ t = .int .i64 (i : Int)) (fun _ t => 8 - (intOf t).toNat)
  case atStart => exact ⟨0, c, Nat.zero_le _, rfl, rfl, rfl⟩
  case round =>
    obtain ⟨i, r, hi, hr, rfl, rfl⟩ := hrel
    by_cases hlt : i < 8
    · have HR : Hid (bstep P r false = bfold P c (List.replicate (i + 1) false)) := by
        show _ = _
        rw [bfold_snoc, ← hr]
      clear hr
      have HS := high_step P r
      have hrl := lt32 r
      go_wp2
      go_round
      case rel => exact ⟨i + 1, _, by omega, HR.out, rfl, by go_num⟩
      case measure => simp [intOf]; omega
    · have h8 : i = 8 := by omega
      have HR : Hid (r = bfold P c noBits) := by
        rw [h8] at hr
        exact hr
      clear hr h8
      go_wp2
      go_ret
      exact ⟨by rw [HR.out]; rfl, (Below.refl _ _).alloc (Nat.le_refl _) _⟩

theorem rN_snoc (q c : BitVec 32) (i : Nat) : rN q (i + 1) c = rstep q (rN q i c) := by
  induction i generalizing c with
  | zero => rfl
  | succ i ih =>
    first
      | rfl
      | (show rN q (i + 1) (rstep q c) = _
         rw [ih]
         rfl)

set_option maxRecDepth 20000 in
set_option maxHeartbeats 800000 in
theorem movedLow_spec (kd wd tn : Int) (lo : Bool) (q c : BitVec 32) (w : World) :
    Calls Tryd.prog 30 #[.agg #[.int .i64 kd, .int .i64 wd, .int .u32 (q.toNat : Int), .bool lo, .int .u32 tn], .int .u32 (c.toNat : Int)] w fun e w' => e = .returned (.int .u32 ((r8 q c).toNat : Int)) ∧ Below w.heap.size w w' := by
  go_enter Tryd.func30, Tryd.ntmps30
  go_wp2
  go_loop [1, 6] (fun x t => ∃ (i : Nat) (r : BitVec 32), i ≤ 8 ∧ r = rN q i c ∧ x = .int .u32 (r.toNat : Int) ∧ t = .int .i64 (i : Int)) (fun _ t => 8 - (intOf t).toNat)
  case atStart => exact ⟨0, c, Nat.zero_le _, rfl, rfl, rfl⟩
  case round =>
    obtain ⟨i, r, hi, hr, rfl, rfl⟩ := hrel
    by_cases hlt : i < 8
    · have HR : Hid (rstep q r = rN q (i + 1) c) := by
        show _ = _
        rw [rN_snoc, ← hr]
      clear hr
      have HS := low_step q r
      have hrl := lt32 r
      go_wp2
      go_round
      case rel => exact ⟨i + 1, _, by omega, HR.out, rfl, by go_num⟩
      case measure => simp [intOf]; omega
    · have h8 : i = 8 := by omega
      have HR : Hid (r = r8 q c) := by
        rw [h8] at hr
        exact hr.trans (r8_eq q c)
      clear hr h8
      go_wp2
      go_ret
      exact ⟨by rw [HR.out]; rfl, (Below.refl _ _).alloc (Nat.le_refl _) _⟩

theorem byte_high (P : BitVec 32) (b : Nat) (hb : b < 256) : ∃ c : BitVec 32, (b : Int) * 16777216 = (c.toNat : Int) ∧ byteStep P 0#32 b = bfold P c noBits := by
  have hl : b * 16777216 < 2 ^ 32 := by omega
  refine ⟨BitVec.ofNat 32 (b * 16777216), ?_, (byteStep_zero P b hb).symm⟩
  rw [BitVec.toNat_ofNat, Nat.mod_eq_of_lt hl]
  omega

set_option maxRecDepth 20000 in
set_option maxHeartbeats 800000 in
theorem movedOf_high (kd wd pol tn : Int) (h0 : 0 ≤ wd) (h32 : wd ≤ 32) (P : BitVec 32) (hP : pol * 2 ^ (32 - wd).toNat % 4294967296 = (P.toNat : Int)) (b : Nat) (hb : b < 256) (w : World) :
    Calls Tryd.prog 29 #[.agg #[.int .i64 kd, .int .i64 wd, .int .u32 pol, .bool false, .int .u32 tn], .int .u32 (b : Int)] w fun e w' => e = .returned (.int .u32 ((byteStep P 0#32 b).toNat : Int)) ∧ Below w.heap.size w w' := by
  obtain ⟨c, hc, he⟩ := byte_high P b hb
  rw [he]
  have HC : ∀ w, Calls Tryd.prog 31 #[.agg #[.int .i64 kd, .int .i64 wd, .int .u32 pol, .bool false, .int .u32 tn], .int .u32 (c.toNat : Int)] w fun e w' => e = .returned (.int .u32 ((bfold P c noBits).toNat : Int)) ∧ Below w.heap.size w w' := fun w => movedHigh_spec kd wd pol tn false h0 h32 P c hP w
  generalize bfold P c noBits = z at HC ⊢
  have HC' : Hid (∀ w, Calls Tryd.prog 31 #[.agg #[.int .i64 kd, .int .i64 wd, .int .u32 pol, .bool false, .int .u32 tn], .int .u32 (c.toNat : Int)] w fun e w' => e = .returned (.int .u32 (z.toNat : Int)) ∧ Below w.heap.size w w') := HC
  clear HC hP he
  generalize z.toNat = zn at HC' ⊢
  generalize c.toNat = cn at HC' hc
  go_enter Tryd.func29, Tryd.ntmps29
  go_wp2_with fail
  refine (HC'.out _).mono ?_
  rintro e w1 ⟨rfl, hB⟩
  have HB : Hid (Below w.heap.size w w1) := ((Below.refl w.heap.size w).alloc (Nat.le_refl _) _).trans (hB.mono (by simp))
  clear hB
  go_wp2
  go_ret
  exact ⟨rfl, HB.out⟩

set_option maxRecDepth 20000 in
set_option maxHeartbeats 800000 in
theorem movedOf_low (kd wd tn : Int) (q : BitVec 32) (b : Nat) (hb : b < 256) (w : World) :
    Calls Tryd.prog 29 #[.agg #[.int .i64 kd, .int .i64 wd, .int .u32 (q.toNat : Int), .bool true, .int .u32 tn], .int .u32 (b : Int)] w fun e w' => e = .returned (.int .u32 ((r8 q (BitVec.ofNat 32 b)).toNat : Int)) ∧ Below w.heap.size w w' := by
  have HC : ∀ w, Calls Tryd.prog 30 #[.agg #[.int .i64 kd, .int .i64 wd, .int .u32 (q.toNat : Int), .bool true, .int .u32 tn], .int .u32 (b : Int)] w fun e w' => e = .returned (.int .u32 ((r8 q (BitVec.ofNat 32 b)).toNat : Int)) ∧ Below w.heap.size w w' := by
    intro w
    have := movedLow_spec kd wd tn true q (BitVec.ofNat 32 b) w
    rwa [BitVec.toNat_ofNat, Nat.mod_eq_of_lt (by omega)] at this
  generalize (r8 q (BitVec.ofNat 32 b)).toNat = zn at HC ⊢
  generalize q.toNat = qn at HC ⊢
  have HC' : Hid (∀ w, Calls Tryd.prog 30 #[.agg #[.int .i64 kd, .int .i64 wd, .int .u32 (qn : Int), .bool true, .int .u32 tn], .int .u32 (b : Int)] w fun e w' => e = .returned (.int .u32 (zn : Int)) ∧ Below w.heap.size w w') := HC
  clear HC
  go_enter Tryd.func29, Tryd.ntmps29
  go_wp2_with fail
  refine (HC'.out _).mono ?_
  rintro e w1 ⟨rfl, hB⟩
  have HB : Hid (Below w.heap.size w w1) := ((Below.refl w.heap.size w).alloc (Nat.le_refl _) _).trans (hB.mono (by simp))
  clear hB
  go_wp2
  go_ret
  exact ⟨rfl, HB.out⟩

end Go.Proofs.YtdmgkgomldjnhaaDoor
