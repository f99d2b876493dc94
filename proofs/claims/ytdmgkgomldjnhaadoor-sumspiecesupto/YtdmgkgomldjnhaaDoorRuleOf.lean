/- Own text: the walk of 'ruleOf': the constant table of kinds is looked through. -/
import Derived.Test.YtdmgkgomldjnhaaDoorTable
import Derived.Handy
namespace Go.Proofs.YtdmgkgomldjnhaaDoor
open Go.RowKit
set_option linter.unusedSimpArgs false
set_option linter.unusedVariables false

/-- The table's cells. -/
def rulesA : Array Value := #[.int .i64 8, .int .i64 8, .int .u32 7, .bool false, .int .u32 0, .int .i64 16, .int .i64 16, .int .u32 32773, .bool false, .int .u32 0,
  .int .i64 32, .int .i64 32, .int .u32 79764919, .bool false, .int .u32 0, .int .i64 33, .int .i64 32, .int .u32 3988292384, .bool true, .int .u32 4294967295]

/-- The table lies where the program's text lays it. -/
def RulesAt (w : World) : Prop := ∃ t fz, w.heap[0]? = some (.cells rulesA t fz)

theorem RulesAt.size {w : World} (h : RulesAt w) : 0 < w.heap.size := by
  obtain ⟨t, fz, h⟩ := h
  exact lt_of_block h

theorem RulesAt.below {w w' : World} (h : RulesAt w) (hB : Below w.heap.size w w') : RulesAt w' := by
  have hs := h.size
  obtain ⟨t, fz, h⟩ := h
  exact ⟨t, fz, by rw [hB.block 0 hs]; exact h⟩

theorem info50 : (Tryd.prog.info? 50).map (·.size) = some rulesA.size := by kernel_rfl

theorem idx0 (w : World) : (Instr.index 50 (.agg rulesA) (.int .i64 0)).run Tryd.prog w = .ok (.agg (ruleV 8 8 7 false 0)) w := by kernel_rfl
theorem idx1 (w : World) : (Instr.index 50 (.agg rulesA) (.int .i64 1)).run Tryd.prog w = .ok (.agg (ruleV 16 16 32773 false 0)) w := by kernel_rfl
theorem idx2 (w : World) : (Instr.index 50 (.agg rulesA) (.int .i64 2)).run Tryd.prog w = .ok (.agg (ruleV 32 32 79764919 false 0)) w := by kernel_rfl
theorem idx3 (w : World) : (Instr.index 50 (.agg rulesA) (.int .i64 3)).run Tryd.prog w = .ok (.agg (ruleV 33 32 3988292384 true 4294967295)) w := by kernel_rfl

set_option maxRecDepth 20000 in
set_option maxHeartbeats 1600000 in
theorem ruleOf_8 (w : World) (hR : RulesAt w) :
    Calls Tryd.prog 25 #[.int .i64 8] w fun e w' => e = .returned (.tuple #[.agg (ruleV 8 8 7 false 0), .bool true]) ∧ Below w.heap.size w w' := by
  obtain ⟨t, fz, hb⟩ := hR
  have HB : Hid ((w.alloc (.cells #[.int .i64 0, .int .i64 0, .int .u32 0, .bool false, .int .u32 0] 43)).heap[0]? = some (.cells rulesA t fz)) := by
    show _ = _
    rw [Below.heap_alloc _ _ _ (lt_of_block hb)]
    exact hb
  have hs := lt_of_block hb
  clear hb
  have i0 := idx0
  have i1 := idx1
  have i2 := idx2
  have i3 := idx3
  go_enter Tryd.func25, Tryd.ntmps25
  go_wp2_with (refine wpList_load_row 50 0 rulesA t fz (.array 4 43) Tryd.underlying50 rfl info50 rfl HB.out ?_)
  clear HB
  refine wp_loop_rounds 1 ?_
  rw [rounds_succ]
  go_wp2
  refine bodyPost_ret (v := .tuple #[.agg (ruleV 8 8 7 false 0), .bool true]) ?_ rfl ⟨rfl, ?_⟩
  · rw [results_cell_tmp rfl]
    simp [asAddr, Result.andThen, go_sem]
  · exact ((Below.refl _ _).alloc (Nat.le_refl _) _).alloc (by simp) _

set_option maxRecDepth 20000 in
set_option maxHeartbeats 1600000 in
theorem ruleOf_16 (w : World) (hR : RulesAt w) :
    Calls Tryd.prog 25 #[.int .i64 16] w fun e w' => e = .returned (.tuple #[.agg (ruleV 16 16 32773 false 0), .bool true]) ∧ Below w.heap.size w w' := by
  obtain ⟨t, fz, hb⟩ := hR
  have HB : Hid ((w.alloc (.cells #[.int .i64 0, .int .i64 0, .int .u32 0, .bool false, .int .u32 0] 43)).heap[0]? = some (.cells rulesA t fz)) := by
    show _ = _
    rw [Below.heap_alloc _ _ _ (lt_of_block hb)]
    exact hb
  have hs := lt_of_block hb
  clear hb
  have i0 := idx0
  have i1 := idx1
  have i2 := idx2
  have i3 := idx3
  go_enter Tryd.func25, Tryd.ntmps25
  go_wp2_with (refine wpList_load_row 50 0 rulesA t fz (.array 4 43) Tryd.underlying50 rfl info50 rfl HB.out ?_)
  clear HB
  refine wp_loop_rounds 2 ?_
  rw [rounds_succ]
  go_wp2
  rw [rounds_succ]
  go_wp2
  refine bodyPost_ret (v := .tuple #[.agg (ruleV 16 16 32773 false 0), .bool true]) ?_ rfl ⟨rfl, ?_⟩
  · rw [results_cell_tmp rfl]
    simp [asAddr, Result.andThen, go_sem]
  · exact (((Below.refl _ _).alloc (Nat.le_refl _) _).alloc (by simp) _).alloc (by simp; omega) _

set_option maxRecDepth 20000 in
set_option maxHeartbeats 1600000 in
theorem ruleOf_32 (w : World) (hR : RulesAt w) :
    Calls Tryd.prog 25 #[.int .i64 32] w fun e w' => e = .returned (.tuple #[.agg (ruleV 32 32 79764919 false 0), .bool true]) ∧ Below w.heap.size w w' := by
  obtain ⟨t, fz, hb⟩ := hR
  have HB : Hid ((w.alloc (.cells #[.int .i64 0, .int .i64 0, .int .u32 0, .bool false, .int .u32 0] 43)).heap[0]? = some (.cells rulesA t fz)) := by
    show _ = _
    rw [Below.heap_alloc _ _ _ (lt_of_block hb)]
    exact hb
  have hs := lt_of_block hb
  clear hb
  have i0 := idx0
  have i1 := idx1
  have i2 := idx2
  have i3 := idx3
  go_enter Tryd.func25, Tryd.ntmps25
  go_wp2_with (refine wpList_load_row 50 0 rulesA t fz (.array 4 43) Tryd.underlying50 rfl info50 rfl HB.out ?_)
  clear HB
  refine wp_loop_rounds 3 ?_
  rw [rounds_succ]
  go_wp2
  rw [rounds_succ]
  go_wp2
  rw [rounds_succ]
  go_wp2
  refine bodyPost_ret (v := .tuple #[.agg (ruleV 32 32 79764919 false 0), .bool true]) ?_ rfl ⟨rfl, ?_⟩
  · rw [results_cell_tmp rfl]
    simp [asAddr, Result.andThen, go_sem]
  · exact ((((Below.refl _ _).alloc (Nat.le_refl _) _).alloc (by simp) _).alloc (by simp; omega) _).alloc (by simp; omega) _

set_option maxRecDepth 20000 in
set_option maxHeartbeats 1600000 in
theorem ruleOf_33 (w : World) (hR : RulesAt w) :
    Calls Tryd.prog 25 #[.int .i64 33] w fun e w' => e = .returned (.tuple #[.agg (ruleV 33 32 3988292384 true 4294967295), .bool true]) ∧ Below w.heap.size w w' := by
  obtain ⟨t, fz, hb⟩ := hR
  have HB : Hid ((w.alloc (.cells #[.int .i64 0, .int .i64 0, .int .u32 0, .bool false, .int .u32 0] 43)).heap[0]? = some (.cells rulesA t fz)) := by
    show _ = _
    rw [Below.heap_alloc _ _ _ (lt_of_block hb)]
    exact hb
  have hs := lt_of_block hb
  clear hb
  have i0 := idx0
  have i1 := idx1
  have i2 := idx2
  have i3 := idx3
  go_enter Tryd.func25, Tryd.ntmps25
  go_wp2_with (refine wpList_load_row 50 0 rulesA t fz (.array 4 43) Tryd.underlying50 rfl info50 rfl HB.out ?_)
  clear HB
  refine wp_loop_rounds 4 ?_
  rw [rounds_succ]
  go_wp2
  rw [rounds_succ]
  go_wp2
  rw [rounds_succ]
  go_wp2
  rw [rounds_succ]
  go_wp2
  refine bodyPost_ret (v := .tuple #[.agg (ruleV 33 32 3988292384 true 4294967295), .bool true]) ?_ rfl ⟨rfl, ?_⟩
  · rw [results_cell_tmp rfl]
    simp [asAddr, Result.andThen, go_sem]
  · exact (((((Below.refl _ _).alloc (Nat.le_refl _) _).alloc (by simp) _).alloc (by simp; omega) _).alloc (by simp; omega) _).alloc (by simp; omega) _

set_option maxRecDepth 20000 in
set_option maxHeartbeats 1600000 in
theorem ruleOf_none (k : Int) (h8 : ¬ 8 = k) (h16 : ¬ 16 = k) (h32 : ¬ 32 = k) (h33 : ¬ 33 = k) (w : World) (hR : RulesAt w) :
    Calls Tryd.prog 25 #[.int .i64 k] w fun e w' => e = .returned (.tuple #[.agg (ruleV 0 0 0 false 0), .bool false]) ∧ Below w.heap.size w w' := by
  obtain ⟨t, fz, hb⟩ := hR
  have HB : Hid ((w.alloc (.cells #[.int .i64 0, .int .i64 0, .int .u32 0, .bool false, .int .u32 0] 43)).heap[0]? = some (.cells rulesA t fz)) := by
    show _ = _
    rw [Below.heap_alloc _ _ _ (lt_of_block hb)]
    exact hb
  have hs := lt_of_block hb
  clear hb
  have i0 := idx0
  have i1 := idx1
  have i2 := idx2
  have i3 := idx3
  go_enter Tryd.func25, Tryd.ntmps25
  go_wp2_with (refine wpList_load_row 50 0 rulesA t fz (.array 4 43) Tryd.underlying50 rfl info50 rfl HB.out ?_)
  clear HB
  refine wp_loop_rounds 5 ?_
  rw [rounds_succ]
  go_wp2
  rw [rounds_succ]
  go_wp2
  rw [rounds_succ]
  go_wp2
  rw [rounds_succ]
  go_wp2
  rw [rounds_succ]
  go_wp2
  refine bodyPost_ret (v := .tuple #[.agg (ruleV 0 0 0 false 0), .bool false]) ?_ rfl ⟨rfl, ?_⟩
  · rw [results_cell_tmp rfl]
    simp [asAddr, Result.andThen, go_sem]
  · exact (((((Below.refl _ _).alloc (Nat.le_refl _) _).alloc (by simp) _).alloc (by simp; omega) _).alloc (by simp; omega) _).alloc (by simp; omega) _

end Go.Proofs.YtdmgkgomldjnhaaDoor
