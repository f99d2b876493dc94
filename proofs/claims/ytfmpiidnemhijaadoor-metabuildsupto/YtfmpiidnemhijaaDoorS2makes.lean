/- Own text: the walk of highFirst. -/
import Derived.Test.YtfmpiidnemhijaaDoorRows
import Derived.Test.YtfmpiidnemhijaaDoorS2plain
import Derived.Deep.OwnRows
import Derived.Deep.Draws
import Derived.Laws.BytesArg
import Derived.Laws.Bits64
import Derived.Laws.BitsAllLaws
import Derived.WalkKit
import Derived.WalkLawsBesides
import Derived.RegionTactic
import Derived.Deep.QuietTactic
import Derived.BigQuiet
import Derived.Outline
namespace Go.Proofs.YtfmpiidnemhijaaDoor
open Go.RowKit
set_option linter.unusedSimpArgs false
set_option linter.unusedVariables false
namespace S2



theorem Tryd.info5 : (Tryd.prog.info? 5).map (fun i => (i.zero, i.size, i.bytes)) = some (some (.int .u8 0), 1, 1) := by kernel_rfl

theorem made_run (n : Nat) (h : n ≤ 281474976710656) (w : World) :
    (Instr.makeSlice 63 (.int .i64 (n : Int)) (.int .i64 (n : Int))).run Tryd.prog w = .ok (.slice (some ⟨w.heap.size, 0, none⟩) n n) (w.alloc (.cells (madeCells #[.int .u8 0] n) 5)) :=
  run_make_row' 63 5 (.int .u8 0) 1 Tryd.underlying63 Tryd.info5 rfl .i64 .i64 n (by omega) (by omega) w

/-- A row of bytes, as a text. -/
theorem conv_row {w : World} {g cap : Nat} {f : Nat → Nat} {n : Nat} (h : w.rowIs g 5 n (fun i => .int .u8 (f i : Int))) :
    (convert 63 9 (.slice (some ⟨g, 0, none⟩) n cap)).run Tryd.prog w = .ok (.string (textOf ((List.range n).map f))) w := by
  rw [textOf_eq]
  refine run_convert_bytes_arg w 63 5 Tryd.underlying63 Tryd.underlying5 g 0 n cap _ (by simp) (fun i hi => ?_) 9 Tryd.underlying9
  rw [Nat.zero_add, h.cell hi]
  simp [List.getD, hi]

theorem pow8 (i : Nat) : (2 : Nat) ^ (8 * i) = 256 ^ i := by rw [Nat.pow_mul]

theorem byte_at (n i : Nat) : ((n : Int) / 2 ^ (8 * i)) % 256 = ((n / 256 ^ i % 256 : Nat) : Int) := by
  have e : ((2 : Int) ^ (8 * i)) = ((256 ^ i : Nat) : Int) := by rw [← pow8]; simp
  rw [e]
  omega

set_option maxRecDepth 20000 in
set_option maxHeartbeats 800000 in
theorem highFirst_spec (n k : Nat) (hn : n < 18446744073709551616) (hk : k ≤ 8) (w : World) :
    Calls Tryd.prog 67 #[.int .u64 (n : Int), .int .i64 (k : Int)] w fun e w' => e = .returned (.string (textOf (highL n k))) ∧ Below w.heap.size w w' := by
  have hmk := made_run k (by omega)
  go_enter Tryd.func67, Tryd.ntmps67
  go_wp2
  have hrow := World.rowIs_made w (.int .u8 0) k 5
  have hbel : Below w.heap.size w (w.alloc (.cells (madeCells #[.int .u8 0] k) 5)) := (Below.refl _ _).alloc (Nat.le_refl _) _
  go_loopw [10] (fun t wr => ∃ (i : Nat), i ≤ k ∧ t = .int .i64 (i : Int) ∧ wr.rowIs w.heap.size 5 k (fun j => .int .u8 ((if k - 1 - j < i then n / 256 ^ (k - 1 - j) % 256 else 0 : Nat) : Int)) ∧ Below w.heap.size w wr) (fun t _ => k - (intOf t).toNat)
  case atStart => exact ⟨0, Nat.zero_le _, rfl, hrow.congr (fun i _ => by simp), hbel⟩
  case round =>
    obtain ⟨i, hi, rfl, hr, hb⟩ := hrel
    by_cases hlt : i < k
    · have hc := hr.cell (i := k - 1 - i) (by omega)
      have hf := hr.frozen (k - 1 - i)
      go_wp2
      go_roundw
      case rel =>
        refine ⟨i + 1, by omega, by go_num, ?_, hb.setCell (by simp) _⟩
        rw [byte_at]
        refine (hr.set (k - 1 - i) _).congr (fun j hj => ?_)
        by_cases e : j = k - 1 - i
        · subst e
          rw [if_pos rfl, show k - 1 - (k - 1 - i) = i from by omega]
          simp
        · rw [if_neg e]
          congr 3
          by_cases h : k - 1 - j < i
          · simp [h, show k - 1 - j < i + 1 by omega]
          · simp [h, show ¬ k - 1 - j < i + 1 by omega]
      case measure => simp [intOf]; omega
    · obtain rfl : i = k := by omega
      have hr2 : wr.rowIs w.heap.size 5 i (fun j => .int .u8 ((n / 256 ^ (i - 1 - j) % 256 : Nat) : Int)) := hr.congr (fun j hj => by rw [if_pos (by omega)])
      have hcv := conv_row (cap := i) hr2
      clear hr
      go_wp2
      go_ret
      exact ⟨rfl, hb⟩


/-- Does a number fit, asked by the program and by the document. -/
theorem shr_zero (m k : Nat) : (((m : Int) / 2 ^ (8 * k)) == 0) = decide (m < 256 ^ k) := by
  have e : ((2 : Int) ^ (8 * k)) = ((256 ^ k : Nat) : Int) := by rw [← pow8]; simp
  rw [e, Bool.eq_iff_iff]
  have h0 : 0 < 256 ^ k := Nat.pow_pos (by decide)
  simp only [beq_iff_eq, decide_eq_true_eq]
  have : ((m : Int) / ((256 ^ k : Nat) : Int)) = ((m / 256 ^ k : Nat) : Int) := by simp
  rw [this]
  have h1 : m / 256 ^ k = 0 ↔ m < 256 ^ k := Nat.div_eq_zero_iff_lt h0
  omega

end S2
end Go.Proofs.YtfmpiidnemhijaaDoor
