/- Own text: the walks of 'lowFirst' and 'highFirst': a number's bytes as a text, either end first; they make memory of their own and turn nothing that was there. -/
import Derived.Test.YtkbpecckphkhnaaRows
import Derived.Test.YtkbpecckphkhnaaPlain
import Derived.Deep.OwnRows
import Derived.Deep.Draws
import Derived.Laws.BytesArg
import Derived.Laws.Bits64
import Derived.Laws.BitsAllLaws
import Derived.WalkKit
import Derived.WalkLawsBesides
import Derived.RegionTactic
import Derived.Deep.QuietTactic
import Derived.BigQuiet
import Derived.Outline
namespace Go.Proofs.Ytkbpecckphkhnaa
open Go.RowKit
set_option linter.unusedSimpArgs false
set_option linter.unusedVariables false

theorem Try.info5 : (Try.prog.info? 5).map (fun i => (i.zero, i.size, i.bytes)) = some (some (.int .u8 0), 1, 1) := by kernel_rfl

theorem made_run (n : Nat) (h : n ≤ 281474976710656) (w : World) :
    (Instr.makeSlice 46 (.int .i64 (n : Int)) (.int .i64 (n : Int))).run Try.prog w = .ok (.slice (some ⟨w.heap.size, 0, none⟩) n n) (w.alloc (.cells (madeCells #[.int .u8 0] n) 5)) :=
  run_make_row' 46 5 (.int .u8 0) 1 Try.underlying46 Try.info5 rfl .i64 .i64 n (by omega) (by omega) w

theorem textOf_eq (bs : List Nat) : textOf bs = strOfNums (bs.map fun (b : Nat) => (b : Int)) := by
  unfold textOf strOfNums
  rw [List.map_map]
  congr 2

/-- A row of bytes, as a text. -/
theorem conv_row {w : World} {g cap : Nat} {f : Nat → Nat} {n : Nat} (h : w.rowIs g 5 n (fun i => .int .u8 (f i : Int))) :
    (convert 46 9 (.slice (some ⟨g, 0, none⟩) n cap)).run Try.prog w = .ok (.string (textOf ((List.range n).map f))) w := by
  rw [textOf_eq]
  refine run_convert_bytes_arg w 46 5 Try.underlying46 Try.underlying5 g 0 n cap _ (by simp) (fun i hi => ?_) 9 Try.underlying9
  rw [Nat.zero_add, h.cell hi]
  simp [List.getD, hi]

theorem pow8 (i : Nat) : (2 : Nat) ^ (8 * i) = 256 ^ i := by rw [Nat.pow_mul]

theorem byte_at (n i : Nat) : ((n : Int) / 2 ^ (8 * i)) % 256 = ((n / 256 ^ i % 256 : Nat) : Int) := by
  have e : ((2 : Int) ^ (8 * i)) = ((256 ^ i : Nat) : Int) := by rw [← pow8]; simp
  rw [e]
  omega

set_option maxRecDepth 20000 in
set_option maxHeartbeats 800000 in
theorem lowFirst_spec (n k : Nat) (hn : n < 18446744073709551616) (hk : k ≤ 8) (w : World) :
    Calls Try.prog 26 #[.int .u64 (n : Int), .int .i64 (k : Int)] w fun e w' => e = .returned (.string (textOf (lowL n k))) ∧ Below w.heap.size w w' := by
  have hmk := made_run k (by omega)
  go_enter Try.func26, Try.ntmps26
  go_wp2
  have hrow := World.rowIs_made w (.int .u8 0) k 5
  have hbel : Below w.heap.size w (w.alloc (.cells (madeCells #[.int .u8 0] k) 5)) := (Below.refl _ _).alloc (Nat.le_refl _) _
  go_loopw [10] (fun t wr => ∃ (i : Nat), i ≤ k ∧ t = .int .i64 (i : Int) ∧ wr.rowIs w.heap.size 5 k (fun j => .int .u8 ((if j < i then n / 256 ^ j % 256 else 0 : Nat) : Int)) ∧ Below w.heap.size w wr) (fun t _ => k - (intOf t).toNat)
  case atStart => exact ⟨0, Nat.zero_le _, rfl, hrow.congr (fun i _ => by simp), hbel⟩
  case round =>
    obtain ⟨i, hi, rfl, hr, hb⟩ := hrel
    by_cases hlt : i < k
    · have hc := hr.cell hlt
      have hf := hr.frozen i
      go_wp2
      go_roundw
      case rel =>
        refine ⟨i + 1, by omega, by go_num, ?_, hb.setCell (by simp) _⟩
        rw [byte_at]
        refine (hr.set i _).congr (fun j hj => ?_)
        by_cases e : j = i
        · subst e; simp
        · simp only [e, if_false]
          congr 3
          by_cases h : j < i
          · simp [h, show j < i + 1 by omega]
          · simp [h, show ¬ j < i + 1 by omega]
      case measure => simp [intOf]; omega
    · obtain rfl : i = k := by omega
      have hr2 : wr.rowIs w.heap.size 5 i (fun j => .int .u8 ((n / 256 ^ j % 256 : Nat) : Int)) := hr.congr (fun j hj => by simp [hj])
      have hcv := conv_row (cap := i) hr2
      clear hr
      go_wp2
      go_ret
      exact ⟨rfl, hb⟩

set_option maxRecDepth 20000 in
set_option maxHeartbeats 800000 in
theorem highFirst_spec (n k : Nat) (hn : n < 18446744073709551616) (hk : k ≤ 8) (w : World) :
    Calls Try.prog 28 #[.int .u64 (n : Int), .int .i64 (k : Int)] w fun e w' => e = .returned (.string (textOf (highL n k))) ∧ Below w.heap.size w w' := by
  have hmk := made_run k (by omega)
  go_enter Try.func28, Try.ntmps28
  go_wp2
  have hrow := World.rowIs_made w (.int .u8 0) k 5
  have hbel : Below w.heap.size w (w.alloc (.cells (madeCells #[.int .u8 0] k) 5)) := (Below.refl _ _).alloc (Nat.le_refl _) _
  go_loopw [10] (fun t wr => ∃ (i : Nat), i ≤ k ∧ t = .int .i64 (i : Int) ∧ wr.rowIs w.heap.size 5 k (fun j => .int .u8 ((if k - 1 - j < i then n / 256 ^ (k - 1 - j) % 256 else 0 : Nat) : Int)) ∧ Below w.heap.size w wr) (fun t _ => k - (intOf t).toNat)
  case atStart => exact ⟨0, Nat.zero_le _, rfl, hrow.congr (fun i _ => by simp), hbel⟩
  case round =>
    obtain ⟨i, hi, rfl, hr, hb⟩ := hrel
    by_cases hlt : i < k
    · have hc := hr.cell (i := k - 1 - i) (by omega)
      have hf := hr.frozen (k - 1 - i)
      go_wp2
      go_roundw
      case rel =>
        refine ⟨i + 1, by omega, by go_num, ?_, hb.setCell (by simp) _⟩
        rw [byte_at]
        refine (hr.set (k - 1 - i) _).congr (fun j hj => ?_)
        by_cases e : j = k - 1 - i
        · subst e
          rw [if_pos rfl, show k - 1 - (k - 1 - i) = i from by omega]
          simp
        · rw [if_neg e]
          congr 3
          by_cases h : k - 1 - j < i
          · simp [h, show k - 1 - j < i + 1 by omega]
          · simp [h, show ¬ k - 1 - j < i + 1 by omega]
      case measure => simp [intOf]; omega
    · obtain rfl : i = k := by omega
      have hr2 : wr.rowIs w.heap.size 5 i (fun j => .int .u8 ((n / 256 ^ (i - 1 - j) % 256 : Nat) : Int)) := hr.congr (fun j hj => by rw [if_pos (by omega)])
      have hcv := conv_row (cap := i) hr2
      clear hr
      go_wp2
      go_ret
      exact ⟨rfl, hb⟩


set_option maxRecDepth 20000 in
set_option maxHeartbeats 800000 in
theorem turned_spec (s : ByteArray) (hs : s.size ≤ 200000000000000) (w : World) :
    Calls Try.prog 27 #[.string s] w fun e w' => e = .returned (.string (textOf (bytesOf s).reverse)) ∧ Below w.heap.size w w' := by
  have hmk := made_run s.size (by omega)
  have hrow := World.rowIs_made w (.int .u8 0) s.size 5
  have hbel : Below w.heap.size w (w.alloc (.cells (madeCells #[.int .u8 0] s.size) 5)) := (Below.refl _ _).alloc (Nat.le_refl _) _
  go_enter Try.func27, Try.ntmps27
  go_wp2
  go_loopw [4] (fun t wr => ∃ (i : Nat), i ≤ s.size ∧ t = .int .i64 (i : Int) ∧ wr.rowIs w.heap.size 5 s.size (fun j => .int .u8 ((if s.size - 1 - j < i then (bytesOf s).getD (s.size - 1 - j) 0 else 0 : Nat) : Int)) ∧ Below w.heap.size w wr) (fun t _ => s.size - (intOf t).toNat)
  case atStart => exact ⟨0, Nat.zero_le _, rfl, hrow.congr (fun i _ => by simp), hbel⟩
  case round =>
    obtain ⟨i, hi, rfl, hr, hb⟩ := hrel
    by_cases hlt : i < s.size
    · have hc := hr.cell (i := s.size - 1 - i) (by omega)
      have hf := hr.frozen (s.size - 1 - i)
      have hg : (bytesOf s).getD i 0 = (s[i]'hlt).toNat := by
        rw [List.getD_eq_getElem?_getD, List.getElem?_eq_getElem (by rw [bytesOf_length]; exact hlt), bytesOf_get s i hlt]
        rfl
      have HG : Hid _ := hg
      clear hg
      go_wp2
      go_roundw
      case rel =>
        refine ⟨i + 1, by omega, by go_num, ?_, hb.setCell (by simp) _⟩
        refine (hr.set (s.size - 1 - i) _).congr (fun j hj => ?_)
        by_cases e : j = s.size - 1 - i
        · subst e
          rw [if_pos rfl, show s.size - 1 - (s.size - 1 - i) = i from by omega, HG.out]
          simp
        · rw [if_neg e]
          congr 3
          by_cases h : s.size - 1 - j < i
          · simp [h, show s.size - 1 - j < i + 1 by omega]
          · simp [h, show ¬ s.size - 1 - j < i + 1 by omega]
      case measure => simp [intOf]; omega
    · obtain rfl : i = s.size := by omega
      have hr2 : wr.rowIs w.heap.size 5 s.size (fun j => .int .u8 (((bytesOf s).getD (s.size - 1 - j) 0 : Nat) : Int)) := hr.congr (fun j hj => by rw [if_pos (by omega)])
      have hcv := conv_row (cap := s.size) hr2
      have he : (List.range s.size).map (fun j => (bytesOf s).getD (s.size - 1 - j) 0) = (bytesOf s).reverse := by
        apply List.ext_getElem
        · simp [bytesOf_length]
        · intro j h1 h2
          have hj : j < s.size := by simpa using h1
          simp only [List.getElem_map, List.getElem_range, List.getElem_reverse, bytesOf_length]
          rw [List.getD_eq_getElem?_getD, List.getElem?_eq_getElem (by rw [bytesOf_length]; omega)]
          rfl
      rw [he] at hcv
      clear hr he
      go_wp2
      go_ret
      exact ⟨rfl, hb⟩

/-- Does a number fit, asked by the program and by the document. -/
theorem shr_zero (m k : Nat) : (((m : Int) / 2 ^ (8 * k)) == 0) = decide (m < 256 ^ k) := by
  have e : ((2 : Int) ^ (8 * k)) = ((256 ^ k : Nat) : Int) := by rw [← pow8]; simp
  rw [e, Bool.eq_iff_iff]
  have h0 : 0 < 256 ^ k := Nat.pow_pos (by decide)
  simp only [beq_iff_eq, decide_eq_true_eq]
  have : ((m : Int) / ((256 ^ k : Nat) : Int)) = ((m / 256 ^ k : Nat) : Int) := by simp
  rw [this]
  have h1 : m / 256 ^ k = 0 ↔ m < 256 ^ k := Nat.div_eq_zero_iff_lt h0
  omega

end Go.Proofs.Ytkbpecckphkhnaa
