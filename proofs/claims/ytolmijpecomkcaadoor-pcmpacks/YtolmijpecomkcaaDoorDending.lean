/- Own text: the walk of the program's 'ending': what stands behind a text of so many bytes. -/
import Derived.Test.YtolmijpecomkcaaDoorDtext
namespace Go.Proofs.YtolmijpecomkcaaDoor.Dg
open Go.RowKit
set_option linter.unusedSimpArgs false
set_option linter.unusedVariables false

theorem info41 : (Tryd.prog.info? 85).map (fun i => (i.zero, i.size)) = some (some (.agg (Array.replicate 64 (.int .u8 0))), 64) := by kernel_rfl
theorem blockV_zero : blockV (fun _ => 0) = Array.replicate 64 (.int .u8 0) := by
  apply Array.ext_getElem?
  intro j
  by_cases h : j < 64
  · rw [blockV_get _ j h]
    simp [h]
  · rw [Array.getElem?_eq_none (by rw [blockV_size]; omega), Array.getElem?_eq_none (by simp; omega)]
theorem blockV_set (f : Nat → Nat) (k v : Nat) : (blockV f).setIfInBounds k (.int .u8 (v : Int)) = blockV (fun j => if j = k then v else f j) := by
  apply Array.ext_getElem?
  intro j
  rw [Array.getElem?_setIfInBounds, blockV_size]
  by_cases hj : j < 64
  · by_cases hk : k = j
    · subst hk
      rw [if_pos rfl, if_pos hj, blockV_get _ _ hj, if_pos rfl]
    · rw [if_neg hk, blockV_get _ _ hj, blockV_get _ _ hj, if_neg (fun e => hk e.symm)]
  · rw [Array.getElem?_eq_none (xs := blockV f) (by rw [blockV_size]; omega), Array.getElem?_eq_none (by rw [blockV_size]; omega)]
    split
    · rw [if_neg (by omega)]
    · rfl

/-- A byte 128 and bytes 0, c in all. -/
def tailL (c : Nat) : List Nat := 128 :: List.replicate (c - 1) 0
theorem tailL_length (c : Nat) (h : 1 ≤ c) : (tailL c).length = c := by
  unfold tailL
  rw [List.length_cons, List.length_replicate]
  omega
theorem tailL_range (c : Nat) (h : 1 ≤ c) : (List.range c).map (fun j => if j = 0 then 128 else 0) = tailL c := by
  obtain ⟨d, rfl⟩ : ∃ d, c = d + 1 := ⟨c - 1, by omega⟩
  apply List.ext_getElem?
  intro j
  unfold tailL
  rw [List.getElem?_map]
  rcases j with _ | j
  · simp
  · by_cases h2 : j < d
    · rw [List.getElem?_range (by omega), List.getElem?_cons_succ, List.getElem?_replicate, if_pos (by omega)]
      rfl
    · rw [List.getElem?_eq_none (by simp; omega), List.getElem?_eq_none (by simp; omega)]
      rfl

theorem low_eight (m : Nat) : lowL m 8 = lowL (m % 4294967296) 4 ++ lowL (m / 4294967296 % 4294967296) 4 := by
  have e : ∀ k, lowL k 4 = [k / 1 % 256, k / 256 % 256, k / 65536 % 256, k / 16777216 % 256] := fun k => rfl
  have e8 : lowL m 8 = [m / 1 % 256, m / 256 % 256, m / 65536 % 256, m / 16777216 % 256, m / 4294967296 % 256, m / 1099511627776 % 256, m / 281474976710656 % 256, m / 72057594037927936 % 256] := rfl
  rw [e, e, e8]
  simp only [List.cons_append, List.nil_append, List.cons.injEq, and_true]
  refine ⟨?_, ?_, ?_, ?_, ?_, ?_, ?_, ?_⟩ <;> omega

theorem behind_text (n : Nat) : textOf (behind n) = textOf (tailL (1 + (119 - n % 64) % 64)) ++ textOf (lowL (8 * n % 4294967296) 4) ++ textOf (lowL (8 * n / 4294967296 % 4294967296) 4) := by
  rw [textOf_append, textOf_append]
  congr 1
  unfold behind tailL
  rw [low_eight (8 * n), show 1 + (119 - n % 64) % 64 - 1 = (119 - n % 64) % 64 from by omega]
  simp

theorem wrap_u32 (x : Int) : IntKind.u32.wrap x = x % 4294967296 := by
  simp [IntKind.wrap, IntKind.bits, IntKind.signed]
/-- What stays through the region: the bytes 128, 0, .. -/
structure End (w0 : World) (w : World) : Prop where
  came : w.heap[w0.heap.size]? = some (.cells (blockV (fun j => if j = 0 then 128 else 0)) 85 (0, 0))
  below : Below w0.heap.size w0 w
theorem End.next {w0 w w' : World} (h : End w0 w) (hB : Below w.heap.size w w') : End w0 w' :=
  ⟨by rw [hB.block _ (lt_of_block h.came)]; exact h.came, h.below.trans (hB.mono h.below.size)⟩
theorem End.conv {w0 w : World} (h : End w0 w) (c : Nat) (h0 : 1 ≤ c) (hc : c ≤ 64) : (convert 41 9 (.slice (some ⟨w0.heap.size, 0, none⟩) c 64)).run Tryd.prog w = .ok (.string (textOf (tailL c))) w := by
  rw [← tailL_range c h0, textOf_eq]
  refine run_convert_bytes_arg w 41 5 Tryd.underlying41 Tryd.underlying5 w0.heap.size 0 c 64 _ (by simp) (fun i hi => ?_) 9 Tryd.underlying9
  rw [Nat.zero_add, cell_of_row _ _ _ _ _ _ h.came, blockV_get _ i (by omega)]
  simp [List.getD, hi]
theorem frozen_of {w : World} {b : Nat} {c : Array Value} {t : TypeId} (h : w.heap[b]? = some (.cells c t (0, 0))) (o : Nat) : w.frozen? ⟨b, o, none⟩ = false := by simp [World.frozen?, h]
theorem zero_cell (w : World) : (w.alloc (.cells (blockV (fun _ => 0)) 85)).cell? ⟨w.heap.size, 0, none⟩ = some (.int .u8 0) := by
  rw [cell_of_row _ _ _ _ _ _ (heap_alloc_new w _), blockV_get _ 0 (by decide)]
  rfl
theorem zero_frozen (w : World) : (w.alloc (.cells (blockV (fun _ => 0)) 85)).frozen? ⟨w.heap.size, 0, none⟩ = false := by
  exact frozen_of (heap_alloc_new w (.cells (blockV (fun _ => 0)) 85)) 0
theorem end_at (w : World) : End w (w.alloc (.cells ((blockV (fun _ => 0)).setIfInBounds 0 (.int .u8 128)) 85)).drew := by
  refine ⟨?_, ((Below.refl w.heap.size w).alloc (Nat.le_refl _) _).drew⟩
  show (w.alloc (.cells ((blockV (fun _ => 0)).setIfInBounds 0 (.int .u8 128)) 85)).heap[w.heap.size]? = _
  rw [heap_alloc_new]
  exact congrArg (fun c => some (Obj.cells c 85 (0, 0))) (blockV_set (fun _ => 0) 0 128)

set_option maxRecDepth 20000 in
set_option maxHeartbeats 4000000 in
theorem ending_short (n : Nat) (hn : n ≤ 100000000000000000) (hc : n % 64 < 56) (w : World) :
    Calls Tryd.prog 56 #[.int .i64 (n : Int)] w fun e w' => e = .returned (.string (textOf (behind n))) ∧ Below w.heap.size w w' := by
  rw [behind_text]
  obtain ⟨r, hr, hr64⟩ : ∃ r : Nat, n % 64 = r ∧ r < 64 := ⟨_, rfl, by omega⟩
  rw [hr] at hc ⊢
  obtain ⟨c, hcc⟩ : ∃ c, 1 + (119 - r) % 64 = c := ⟨_, rfl⟩
  rw [hcc]
  have hri : (n : Int) % 64 = (r : Int) := by omega
  have hci : (56 : Int) - (r : Int) = (c : Int) := by omega
  have hc1 : 1 ≤ c := by omega
  have hc64 : c ≤ 64 := by omega
  have hsl := slice_h w.heap.size 0 c hc64
  have HC : Hid (∀ wx, Hid (End w wx) → Hid (End w wx) ∧ (convert 41 9 (.slice (some ⟨w.heap.size, 0, none⟩) c 64)).run Tryd.prog wx = .ok (.string (textOf (tailL c))) wx) := fun wx hx => ⟨hx, hx.out.conv c hc1 hc64⟩
  obtain ⟨lo, hlo, hlo2⟩ : ∃ lo : Nat, 8 * n % 4294967296 = lo ∧ lo < 4294967296 := ⟨_, rfl, by omega⟩
  obtain ⟨hi, hhi, hhi2⟩ : ∃ hi : Nat, 8 * n / 4294967296 % 4294967296 = hi ∧ hi < 4294967296 := ⟨_, rfl, by omega⟩
  rw [hlo, hhi]
  have hb8 : (n : Int) * 8 = ((8 * n : Nat) : Int) := by omega
  have hlo' : (n : Int) * 8 % 4294967296 = (lo : Int) := by omega
  have hhi' : (n : Int) * 8 / 4294967296 = (hi : Int) := by omega
  clear hb8
  have KW : ∀ (x : Nat), x < 4294967296 → Hid (∀ wx, Hid (End w wx) → Calls Tryd.prog 67 #[.int .u32 (x : Int)] wx fun e w' => e = .returned (.string (textOf (lowL x 4))) ∧ Hid (End w w')) := fun x hx wx hwx =>
    (word_spec x hx wx).mono fun e w' h => ⟨h.1, hwx.out.next h.2⟩
  have KA := KW lo hlo2
  have KB := KW hi hhi2
  clear KW
  have sa : (textOf (lowL lo 4)).size = 4 := by rw [textOf_size, lowL_length]
  have sb : (textOf (lowL hi 4)).size = 4 := by rw [textOf_size, lowL_length]
  have sz : (textOf (tailL c)).size = c := by rw [textOf_size, tailL_length _ hc1]
  generalize textOf (lowL lo 4) = ta at *
  generalize textOf (lowL hi 4) = tb at *
  generalize textOf (tailL c) = tz at *
  have hz := (zero_of_info info41).1
  have HI : Hid ((Tryd.prog.info? 85).map (·.size) = some 64) := (zero_of_info info41).2
  rw [← blockV_zero] at hz
  have hc0 := zero_cell w
  have hf0 := zero_frozen w
  have HLO : Hid (8 * n % 4294967296 = lo) := hlo
  have HHI : Hid (8 * n / 4294967296 % 4294967296 = hi) := hhi
  have hwl : IntKind.u32.wrap ((n : Int) * 8) = (lo : Int) := by rw [← hlo', wrap_u32]
  have hwh : IntKind.u32.wrap (hi : Int) = (hi : Int) := by rw [wrap_u32]; omega
  clear hlo hhi hcc hr
  go_enter Tryd.func56, Tryd.ntmps56
  go_wp2_with fail
  generalize hwb : w.alloc _ = wb
  have HD : Hid (End w wb.drew) := by
    rw [← hwb]
    exact end_at w
  clear hwb
  go_region_held (fun wx => Hid (End w wx) ∧ (convert 41 9 (.slice (some ⟨w.heap.size, 0, none⟩) c 64)).run Tryd.prog wx = .ok (.string tz) wx) (exact HC.out _ (by assumption))
    (first | (go_at_call_of 67 (Value.int .u32 (lo : Int)); refine (KA.out _ ?_).mono ?_; (first | assumption | exact (by assumption : _ ∧ _).1); rintro e w4 ⟨rfl, h4⟩) | (go_at_call_of 67 (Value.int .u32 (hi : Int)); refine (KB.out _ ?_).mono ?_; (first | assumption | exact (by assumption : _ ∧ _).1); rintro e w4 ⟨rfl, h4⟩))
  all_goals go_wp2
  all_goals go_ret
  all_goals refine ⟨rfl, ?_⟩
  all_goals apply End.below
  all_goals apply Hid.out
  all_goals assumption

set_option maxRecDepth 20000 in
set_option maxHeartbeats 4000000 in
theorem ending_long (n : Nat) (hn : n ≤ 100000000000000000) (hc : 56 ≤ n % 64) (w : World) :
    Calls Tryd.prog 56 #[.int .i64 (n : Int)] w fun e w' => e = .returned (.string (textOf (behind n))) ∧ Below w.heap.size w w' := by
  rw [behind_text]
  obtain ⟨r, hr, hr64⟩ : ∃ r : Nat, n % 64 = r ∧ r < 64 := ⟨_, rfl, by omega⟩
  rw [hr] at hc ⊢
  obtain ⟨c, hcc⟩ : ∃ c, 1 + (119 - r) % 64 = c := ⟨_, rfl⟩
  rw [hcc]
  have hri : (n : Int) % 64 = (r : Int) := by omega
  have hci : (56 : Int) - (r : Int) + 64 = (c : Int) := by omega
  have hc1 : 1 ≤ c := by omega
  have hc64 : c ≤ 64 := by omega
  have hsl := slice_h w.heap.size 0 c hc64
  have HC : Hid (∀ wx, Hid (End w wx) → Hid (End w wx) ∧ (convert 41 9 (.slice (some ⟨w.heap.size, 0, none⟩) c 64)).run Tryd.prog wx = .ok (.string (textOf (tailL c))) wx) := fun wx hx => ⟨hx, hx.out.conv c hc1 hc64⟩
  obtain ⟨lo, hlo, hlo2⟩ : ∃ lo : Nat, 8 * n % 4294967296 = lo ∧ lo < 4294967296 := ⟨_, rfl, by omega⟩
  obtain ⟨hi, hhi, hhi2⟩ : ∃ hi : Nat, 8 * n / 4294967296 % 4294967296 = hi ∧ hi < 4294967296 := ⟨_, rfl, by omega⟩
  rw [hlo, hhi]
  have hb8 : (n : Int) * 8 = ((8 * n : Nat) : Int) := by omega
  have hlo' : (n : Int) * 8 % 4294967296 = (lo : Int) := by omega
  have hhi' : (n : Int) * 8 / 4294967296 = (hi : Int) := by omega
  clear hb8
  have KW : ∀ (x : Nat), x < 4294967296 → Hid (∀ wx, Hid (End w wx) → Calls Tryd.prog 67 #[.int .u32 (x : Int)] wx fun e w' => e = .returned (.string (textOf (lowL x 4))) ∧ Hid (End w w')) := fun x hx wx hwx =>
    (word_spec x hx wx).mono fun e w' h => ⟨h.1, hwx.out.next h.2⟩
  have KA := KW lo hlo2
  have KB := KW hi hhi2
  clear KW
  have sa : (textOf (lowL lo 4)).size = 4 := by rw [textOf_size, lowL_length]
  have sb : (textOf (lowL hi 4)).size = 4 := by rw [textOf_size, lowL_length]
  have sz : (textOf (tailL c)).size = c := by rw [textOf_size, tailL_length _ hc1]
  generalize textOf (lowL lo 4) = ta at *
  generalize textOf (lowL hi 4) = tb at *
  generalize textOf (tailL c) = tz at *
  have hz := (zero_of_info info41).1
  have HI : Hid ((Tryd.prog.info? 85).map (·.size) = some 64) := (zero_of_info info41).2
  rw [← blockV_zero] at hz
  have hc0 := zero_cell w
  have hf0 := zero_frozen w
  have HLO : Hid (8 * n % 4294967296 = lo) := hlo
  have HHI : Hid (8 * n / 4294967296 % 4294967296 = hi) := hhi
  have hwl : IntKind.u32.wrap ((n : Int) * 8) = (lo : Int) := by rw [← hlo', wrap_u32]
  have hwh : IntKind.u32.wrap (hi : Int) = (hi : Int) := by rw [wrap_u32]; omega
  clear hlo hhi hcc hr
  go_enter Tryd.func56, Tryd.ntmps56
  go_wp2_with fail
  generalize hwb : w.alloc _ = wb
  have HD : Hid (End w wb.drew) := by
    rw [← hwb]
    exact end_at w
  clear hwb
  go_region_held (fun wx => Hid (End w wx) ∧ (convert 41 9 (.slice (some ⟨w.heap.size, 0, none⟩) c 64)).run Tryd.prog wx = .ok (.string tz) wx) (exact HC.out _ (by assumption))
    (first | (go_at_call_of 67 (Value.int .u32 (lo : Int)); refine (KA.out _ ?_).mono ?_; (first | assumption | exact (by assumption : _ ∧ _).1); rintro e w4 ⟨rfl, h4⟩) | (go_at_call_of 67 (Value.int .u32 (hi : Int)); refine (KB.out _ ?_).mono ?_; (first | assumption | exact (by assumption : _ ∧ _).1); rintro e w4 ⟨rfl, h4⟩))
  all_goals go_wp2
  all_goals go_ret
  all_goals refine ⟨rfl, ?_⟩
  all_goals apply End.below
  all_goals apply Hid.out
  all_goals assumption

theorem ending_spec (n : Nat) (hn : n ≤ 100000000000000000) (w : World) :
    Calls Tryd.prog 56 #[.int .i64 (n : Int)] w fun e w' => e = .returned (.string (textOf (behind n))) ∧ Below w.heap.size w w' := by
  by_cases hc : n % 64 < 56
  · exact ending_short n hn hc w
  · exact ending_long n hn (by omega) w

end Go.Proofs.YtolmijpecomkcaaDoor.Dg
