/- Own text: the walk of table. the walk of ruleOf. the cells of a sum. -/
import Derived.Test.YtjkamannjgcmiaaDoorG23x
import Derived.Deep.WholeRow
import Derived.Laws.ResultCell
import Derived.Deep.Cut
import Derived.Handy
namespace Go.Proofs.YtjkamannjgcmiaaDoor
open Go.RowKit
set_option linter.unusedSimpArgs false
set_option linter.unusedVariables false
namespace S3


theorem info124 : (Tryd.prog.info? 124).map (fun i => (i.zero, i.size)) = some (some (.agg (Array.replicate 256 (.int .u32 0))), 256) := by kernel_rfl

theorem block_setCell (w : World) (p i : Nat) (cs : Array Value) (t : TypeId) (u : Value) (h : w.heap[p]? = some (.cells cs t (0, 0))) :
    (w.setCell ⟨p, i, none⟩ u).heap[p]? = some (.cells (cs.setIfInBounds i u) t (0, 0)) := by
  simp only [World.setCell, Array.getElem?_modify, h]
  simp

/-- A table of 256 words of which the first k are laid. -/
def tabV (F : Nat → Nat) (k : Nat) : Array Value := ((List.range 256).map fun j => Value.int .u32 (((if j < k then F j else 0) : Nat) : Int)).toArray

theorem tabV_size (F : Nat → Nat) (k : Nat) : (tabV F k).size = 256 := by simp [tabV]
theorem tabV_get (F : Nat → Nat) (k j : Nat) (h : j < 256) : (tabV F k)[j]? = some (.int .u32 (((if j < k then F j else 0) : Nat) : Int)) := by simp [tabV, h]
theorem tabV_zero (F : Nat → Nat) : tabV F 0 = Array.replicate 256 (.int .u32 0) := by
  apply Array.ext_getElem?
  intro j
  by_cases h : j < 256
  · rw [tabV_get F 0 j h]
    simp [h]
  · rw [Array.getElem?_eq_none (by rw [tabV_size]; omega), Array.getElem?_eq_none (by simp; omega)]
theorem tabV_set (F : Nat → Nat) (k : Nat) (h : k < 256) : (tabV F k).setIfInBounds k (.int .u32 (F k : Int)) = tabV F (k + 1) := by
  apply Array.ext_getElem?
  intro j
  rw [Array.getElem?_setIfInBounds, tabV_size]
  by_cases hj : j < 256
  · by_cases hk : k = j
    · subst hk
      rw [if_pos rfl, if_pos h, tabV_get F _ _ hj]
      simp
    · rw [if_neg hk, tabV_get F _ _ hj, tabV_get F _ _ hj]
      have : (j < k) = (j < k + 1) := propext ⟨fun h => by omega, fun h => by omega⟩
      simp only [this]
  · rw [Array.getElem?_eq_none (by rw [tabV_size]; omega), Array.getElem?_eq_none (by rw [tabV_size]; omega), if_neg (by omega)]

/-- Of a number that is no power of two: without its lowest bit, and that bit. -/
theorem low_bit : ∀ i : Fin 256, i.val &&& (i.val - 1) = 0 ∨ ((i.val &&& (i.val - 1)) < i.val ∧ (i.val ^^^ (i.val &&& (i.val - 1))) < i.val ∧ (i.val &&& (i.val - 1)) ^^^ (i.val ^^^ (i.val &&& (i.val - 1))) = i.val) := by decide +kernel

theorem and_less (i : Nat) (h : i < 256) : bits .and .i64 (i : Int) ((i : Int) - 1) = ((i &&& (i - 1) : Nat) : Int) := by
  by_cases h0 : i = 0
  · subst h0
    decide
  · have e : (i : Int) - 1 = ((i - 1 : Nat) : Int) := by omega
    rw [e, i64_and_nat _ _ (by omega) (by omega)]

section
variable {P : Program} {ops : Array Oper} {rest : List Oper} {Q : Exit → Act → World → Prop} {a : Act} {w : World}

/-- A whole row is loaded. -/
theorem wpList_load_row (t : TypeId) {dst : Option Tmp} {x : Operand} {ty : TypeId} {pos : String} {after : Array Edge} (b : Nat) (c : Array Value) (t' : TypeId) (fz : Nat × Nat) (d : TypeDesc) (hu : P.underlying t = some d) (hd : (match d with | .struct _ | .array _ _ => true | _ => false) = true)
    (hi : (P.info? t).map (·.size) = some c.size) (hx : a.eval x = .pointer (some ⟨b, 0, none⟩)) (hb : w.heap[b]? = some (.cells c t' fz)) (h : wpList P ops Q rest (a.put dst (.agg c)) w) :
    wpList P ops Q (⟨dst, .load t x, ty, pos, after, none⟩ :: rest) a w := by
  refine wpList_plain rfl fun K hK => ?_
  unfold Oper.wp
  simp only [execOp, hx, Instr.loadAt, Instr.sureAddr, Sem.run_bind, Sem.run_pure, Result.andThen_ok, run_loadVar_row w b t' t c fz d hb hu hd hi]
  exact hK _ _ h
end

theorem lt_of {w : World} {b : Nat} {o : Obj} (h : w.heap[b]? = some o) : b < w.heap.size := lt_of_block h

theorem at_new3 (w : World) (a b c : Obj) : (((w.alloc a).alloc b).alloc c).heap[w.heap.size + 2]? = some c := by
  have h := heap_alloc_last ((w.alloc a).alloc b) c
  have e : ((w.alloc a).alloc b).heap.size = w.heap.size + 2 := by simp
  rwa [e] at h
theorem at_new2 (w : World) (a b c : Obj) : (((w.alloc a).alloc b).alloc c).heap[w.heap.size + 1]? = some b := by
  rw [Below.heap_alloc _ _ _ (by simp)]
  have h := heap_alloc_last (w.alloc a) b
  have e : (w.alloc a).heap.size = w.heap.size + 1 := by simp
  rwa [e] at h
theorem at_new1 (w : World) (a b c : Obj) : (((w.alloc a).alloc b).alloc c).heap[w.heap.size]? = some a := by
  rw [Below.heap_alloc _ _ _ (by simp; omega), Below.heap_alloc _ _ _ (by simp)]
  exact heap_alloc_last w a

/-- The result that lies in a cell. -/
theorem results_cell {fn : Func} {p : Tmp} {ty : TypeId} (h : fn.results = #[.cell p ty]) (tmps : Array Value) (P : Program) (w : World) :
    (results fn tmps).run P w = ((asAddr (tmps.getD p undef)).run P w).andThen fun a w₁ => (loadVar ty a).run P w₁ := by
  simp only [results, h]
  simp [Sem.run_bind, Result.andThen]

/-- A rule's value. -/
abbrev ruleV (kd wd pol : Int) (lo : Bool) (tn : Int) : Array Value := #[.int .i64 kd, .int .i64 wd, .int .u32 pol, .bool lo, .int .u32 tn]

set_option maxRecDepth 20000 in
set_option maxHeartbeats 1600000 in
theorem table_spec (kd wd pol tn : Int) (lo : Bool) (F : Nat → Nat) (hF : ∀ j, F j < 4294967296) (hX : ∀ a b, F (a ^^^ b) = F a ^^^ F b)
    (hM : ∀ (b : Nat), b < 256 → ∀ w, Calls Tryd.prog 81 #[.agg (ruleV kd wd pol lo tn), .int .u32 (b : Int)] w fun e w' => e = .returned (.int .u32 (F b : Int)) ∧ Below w.heap.size w w') (w : World) :
    Calls Tryd.prog 77 #[.agg (ruleV kd wd pol lo tn)] w fun e w' => e = .returned (.agg (tabV F 256)) ∧ Below w.heap.size w w' := by
  have hz := (zero_of_info info124).1
  rw [← tabV_zero F] at hz
  have HI : Hid ((Tryd.prog.info? 124).map (·.size) = some 256) := (zero_of_info info124).2
  have hZs : Hid ((tabV F 0).size = 256) := tabV_size F 0
  have HM : Hid (∀ (b : Nat), b < 256 → ∀ w, Calls Tryd.prog 81 #[.agg (ruleV kd wd pol lo tn), .int .u32 (b : Int)] w fun e w' => e = .returned (.int .u32 (F b : Int)) ∧ Below w.heap.size w w') := hM
  have HX : Hid (∀ a b, F (a ^^^ b) = F a ^^^ F b) := hX
  have HF : Hid (∀ j, F j < 4294967296) := hF
  clear hM hX hF
  go_enter Tryd.func77, Tryd.ntmps77
  go_wp2_with fail
  go_loopw [6] (fun t wr => ∃ i : Nat, i ≤ 256 ∧ t = .int .i64 (i : Int) ∧ wr.heap[w.heap.size + 2]? = some (.cells (tabV F i) 124 (0, 0)) ∧ wr.heap[w.heap.size + 1]? = some (.cells (tabV F 0) 124 (0, 0)) ∧ wr.heap[w.heap.size]? = some (.cells (ruleV kd wd pol lo tn) 121 (0, 0)) ∧ Below w.heap.size w wr) (fun t _ => 256 - (intOf t).toNat)
  case atStart =>
    refine ⟨0, Nat.zero_le _, rfl, ?_, ?_, ?_, ?_⟩
    · exact at_new3 w _ _ _
    · exact at_new2 w _ _ _
    · exact at_new1 w _ _ _
    · exact (((Below.refl w.heap.size w).alloc (Nat.le_refl _) _).alloc (by simp) _).alloc (by simp; omega) _
  case round =>
    obtain ⟨i, hi, rfl, hb2, hb1, hb0, hB⟩ := hrel
    by_cases hlt : i < 256
    · have hand := and_less i hlt
      have hsz := hB.size
      have hl2 := lt_of hb2
      rcases low_bit ⟨i, hlt⟩ with h0 | ⟨h1, h2, h3⟩
      · simp only at h0
        rw [h0] at hand
        have HB2 : Hid (wr.heap[w.heap.size + 2]? = some (.cells (tabV F i) 124 (0, 0))) := hb2
        have HB1 : Hid (wr.heap[w.heap.size + 1]? = some (.cells (tabV F 0) 124 (0, 0))) := hb1
        have HB0 : Hid (wr.heap[w.heap.size]? = some (.cells (ruleV kd wd pol lo tn) 121 (0, 0))) := hb0
        have HB : Hid (Below w.heap.size w wr) := hB
        have HL2 : Hid (w.heap.size + 2 < wr.heap.size) := hl2
        have c0 : wr.cell? ⟨w.heap.size, 0, none⟩ = some (.int .i64 kd) := by rw [cell_of_row _ _ _ _ _ _ hb0]; rfl
        have c1 : wr.cell? ⟨w.heap.size, 1, none⟩ = some (.int .i64 wd) := by rw [cell_of_row _ _ _ _ _ _ hb0]; rfl
        have c2 : wr.cell? ⟨w.heap.size, 2, none⟩ = some (.int .u32 pol) := by rw [cell_of_row _ _ _ _ _ _ hb0]; rfl
        have c3 : wr.cell? ⟨w.heap.size, 3, none⟩ = some (.bool lo) := by rw [cell_of_row _ _ _ _ _ _ hb0]; rfl
        have c4 : wr.cell? ⟨w.heap.size, 4, none⟩ = some (.int .u32 tn) := by rw [cell_of_row _ _ _ _ _ _ hb0]; rfl
        clear hb2 hb1 hb0 hB h0 hl2 hsz
        go_wp2_with fail
        refine (HM.out i hlt _).mono ?_
        rintro e w1 ⟨rfl, hB1⟩
        have K2 : Hid (w1.heap[w.heap.size + 2]? = some (.cells (tabV F i) 124 (0, 0))) := by
          show _ = _
          rw [hB1.block _ HL2.out]; exact HB2.out
        have K1 : Hid (w1.heap[w.heap.size + 1]? = some (.cells (tabV F 0) 124 (0, 0))) := by
          show _ = _
          rw [hB1.block _ (by have := HL2.out; omega)]; exact HB1.out
        have K0 : Hid (w1.heap[w.heap.size]? = some (.cells (ruleV kd wd pol lo tn) 121 (0, 0))) := by
          show _ = _
          rw [hB1.block _ (by have := HL2.out; omega)]; exact HB0.out
        have KB : Hid (Below w.heap.size w w1) := HB.out.trans (hB1.mono HB.out.size)
        have ci : w1.cell? ⟨w.heap.size + 1 + 1, i, none⟩ = some (.int .u32 0) := by
          rw [cell_of_row _ _ _ _ _ _ K2.out, tabV_get F i i hlt]
          simp
        have fi : w1.frozen? ⟨w.heap.size + 1 + 1, i, none⟩ = false := by
          have := K2.out
          simp [World.frozen?, this]
        clear hB1
        go_wp2
        go_roundw
        case rel =>
          exact ⟨i + 1, by omega, by go_num, by rw [block_setCell _ _ _ _ _ _ K2.out, tabV_set F i hlt], by rw [Below.heap_setCell _ _ _ _ (by simp)]; exact K1.out,
            by rw [Below.heap_setCell _ _ _ _ (by simp; omega)]; exact K0.out, KB.out.setCell (by simp; omega) _⟩
        case measure => simp [intOf]; omega
      · simp only at h1 h2 h3
        have hr0 : ¬ ((i &&& (i - 1) : Nat) : Int) = 0 := by
          intro e
          have e' : i &&& (i - 1) = 0 := by omega
          rw [e'] at h2
          simp at h2
        have hxor : bits .xor .i64 (i : Int) ((i &&& (i - 1) : Nat) : Int) = ((i ^^^ (i &&& (i - 1)) : Nat) : Int) := i64_xor_nat _ _ (by omega) (by omega)
        generalize i &&& (i - 1) = r at *
        generalize hq : i ^^^ r = q at *
        have hfx : bits .xor .u32 (F r : Int) (F q : Int) = (F i : Int) := by
          rw [u32_xor_nat _ _ (HF.out r) (HF.out q), ← HX.out, h3]
        have cr : wr.cell? ⟨w.heap.size + 1 + 1, r, none⟩ = some (.int .u32 (F r : Int)) := by
          rw [cell_of_row _ _ _ _ _ _ hb2, tabV_get F i r (by omega), if_pos h1]
        have cq : wr.cell? ⟨w.heap.size + 1 + 1, q, none⟩ = some (.int .u32 (F q : Int)) := by
          rw [cell_of_row _ _ _ _ _ _ hb2, tabV_get F i q (by omega), if_pos h2]
        have ci : wr.cell? ⟨w.heap.size + 1 + 1, i, none⟩ = some (.int .u32 0) := by
          rw [cell_of_row _ _ _ _ _ _ hb2, tabV_get F i i hlt]
          simp
        have fi : wr.frozen? ⟨w.heap.size + 1 + 1, i, none⟩ = false := by
          simp [World.frozen?, hb2]
        have K2 : Hid (wr.heap[w.heap.size + 2]? = some (.cells (tabV F i) 124 (0, 0))) := hb2
        have K1 : Hid (wr.heap[w.heap.size + 1]? = some (.cells (tabV F 0) 124 (0, 0))) := hb1
        have K0 : Hid (wr.heap[w.heap.size]? = some (.cells (ruleV kd wd pol lo tn) 121 (0, 0))) := hb0
        have KB : Hid (Below w.heap.size w wr) := hB
        clear hb2 hb1 hb0 hB h3 hq hl2 hsz
        go_wp2_with fail
        go_region
        all_goals go_wp2
        go_roundw
        case rel =>
          refine ⟨i + 1, by omega, by go_num, ?_, ?_, ?_, (KB.out.setCell (by simp; omega) _).drew⟩
          · show (wr.setCell _ _).heap[_]? = _
            rw [block_setCell _ _ _ _ _ _ K2.out, tabV_set F i hlt]
          · show (wr.setCell _ _).heap[_]? = _
            rw [Below.heap_setCell _ _ _ _ (by simp)]
            exact K1.out
          · show (wr.setCell _ _).heap[_]? = _
            rw [Below.heap_setCell _ _ _ _ (by simp; omega)]
            exact K0.out
        case measure => simp [intOf]; omega
    · have h8 : i = 256 := by omega
      have HB2 : Hid (wr.heap[w.heap.size + 2]? = some (.cells (tabV F 256) 124 (0, 0))) := by rw [h8] at hb2; exact hb2
      have HB1 : Hid (wr.heap[w.heap.size + 1]? = some (.cells (tabV F 0) 124 (0, 0))) := hb1
      have HB : Hid (Below w.heap.size w wr) := hB
      clear hb2 hb1 hb0 hB h8
      go_upto_region 10 with fail
      go_wp2_with (first | (refine wpList_load_row 124 (w.heap.size + 2) (tabV F 256) 124 (0, 0) (.array 256 119) Tryd.underlying124 rfl (by rw [tabV_size]; exact HI.out) rfl HB2.out ?_) | (refine wpList_store_row rfl 124 (.tmp 2) (.tmp 33) rfl (w.heap.size + 1) (tabV F 256) rfl rfl 124 (tabV F 0) HB1.out (by rw [tabV_size]; exact HI.out) (by rw [tabV_size, tabV_size]) (by simp [tabV, Value.oneCell']) ?_))
      refine bodyPost_ret (v := .agg (tabV F 256)) ?_ rfl ⟨rfl, ?_⟩
      · rw [results_cell rfl]
        have hld := run_loadVar_row (P := Tryd.prog) _ (w.heap.size + 1) 124 124 (tabV F 256) (0, 0) _ (setRow_heap wr (w.heap.size + 1) _ (tabV F 256) 124 (0, 0) HB1.out) Tryd.underlying124 rfl (by rw [tabV_size]; exact HI.out)
        simp [asAddr, Result.andThen, Act.put, hld]
      · exact HB.out.trans ⟨rfl, rfl, rfl, by simp, fun k hk => setRow_other _ _ _ _ (by omega)⟩

end S3
end Go.Proofs.YtjkamannjgcmiaaDoor

namespace Go.Proofs.YtjkamannjgcmiaaDoor
open Go.RowKit
set_option linter.unusedSimpArgs false
set_option linter.unusedVariables false
namespace S3


/-- The table's cells. -/
def rulesA : Array Value := #[.int .i64 8, .int .i64 8, .int .u32 7, .bool false, .int .u32 0, .int .i64 16, .int .i64 16, .int .u32 32773, .bool false, .int .u32 0,
  .int .i64 32, .int .i64 32, .int .u32 79764919, .bool false, .int .u32 0, .int .i64 33, .int .i64 32, .int .u32 3988292384, .bool true, .int .u32 4294967295]

/-- The table lies where the program's text lays it. -/
def RulesAt (w : World) : Prop := ∃ t fz, w.heap[1]? = some (.cells rulesA t fz)

theorem RulesAt.size {w : World} (h : RulesAt w) : 1 < w.heap.size := by
  obtain ⟨t, fz, h⟩ := h
  exact lt_of_block h

theorem RulesAt.below {w w' : World} (h : RulesAt w) (hB : Below w.heap.size w w') : RulesAt w' := by
  have hs := h.size
  obtain ⟨t, fz, h⟩ := h
  exact ⟨t, fz, by rw [hB.block 1 hs]; exact h⟩

theorem info128 : (Tryd.prog.info? 128).map (·.size) = some rulesA.size := by kernel_rfl

theorem idx0 (w : World) : (Instr.index 128 (.agg rulesA) (.int .i64 0)).run Tryd.prog w = .ok (.agg (ruleV 8 8 7 false 0)) w := by kernel_rfl
theorem idx1 (w : World) : (Instr.index 128 (.agg rulesA) (.int .i64 1)).run Tryd.prog w = .ok (.agg (ruleV 16 16 32773 false 0)) w := by kernel_rfl
theorem idx2 (w : World) : (Instr.index 128 (.agg rulesA) (.int .i64 2)).run Tryd.prog w = .ok (.agg (ruleV 32 32 79764919 false 0)) w := by kernel_rfl
theorem idx3 (w : World) : (Instr.index 128 (.agg rulesA) (.int .i64 3)).run Tryd.prog w = .ok (.agg (ruleV 33 32 3988292384 true 4294967295)) w := by kernel_rfl

set_option maxRecDepth 20000 in
set_option maxHeartbeats 1600000 in
theorem ruleOf_32 (w : World) (hR : RulesAt w) :
    Calls Tryd.prog 76 #[.int .i64 32] w fun e w' => e = .returned (.tuple #[.agg (ruleV 32 32 79764919 false 0), .bool true]) ∧ Below w.heap.size w w' := by
  obtain ⟨t, fz, hb⟩ := hR
  have HB : Hid ((w.alloc (.cells #[.int .i64 0, .int .i64 0, .int .u32 0, .bool false, .int .u32 0] 121)).heap[1]? = some (.cells rulesA t fz)) := by
    show _ = _
    rw [Below.heap_alloc _ _ _ (lt_of_block hb)]
    exact hb
  have hs := lt_of_block hb
  clear hb
  have i0 := idx0
  have i1 := idx1
  have i2 := idx2
  have i3 := idx3
  go_enter Tryd.func76, Tryd.ntmps76
  go_wp2_with (refine wpList_load_row 128 1 rulesA t fz (.array 4 121) Tryd.underlying128 rfl info128 rfl HB.out ?_)
  clear HB
  refine wp_loop_rounds 3 ?_
  rw [rounds_succ]
  go_wp2
  rw [rounds_succ]
  go_wp2
  rw [rounds_succ]
  go_wp2
  refine bodyPost_ret (v := .tuple #[.agg (ruleV 32 32 79764919 false 0), .bool true]) ?_ rfl ⟨rfl, ?_⟩
  · rw [results_cell_tmp rfl]
    simp [asAddr, Result.andThen, go_sem]
  · exact ((((Below.refl _ _).alloc (Nat.le_refl _) _).alloc (by simp) _).alloc (by simp; omega) _).alloc (by simp; omega) _

end S3
end Go.Proofs.YtjkamannjgcmiaaDoor

namespace Go.Proofs.YtjkamannjgcmiaaDoor
open Go.RowKit
set_option linter.unusedSimpArgs false
set_option linter.unusedVariables false
namespace S3


/-- A sum's cells. -/
def sumV (kd wd pol : Int) (lo : Bool) (tn : Int) (F : Nat → Nat) (reg : Nat) : Array Value := ruleV kd wd pol lo tn ++ tabV F 256 ++ #[.int .u32 (reg : Int)]

theorem sumV_size (kd wd pol : Int) (lo : Bool) (tn : Int) (F : Nat → Nat) (reg : Nat) : (sumV kd wd pol lo tn F reg).size = 262 := by
  simp [sumV, tabV_size, ruleV]

theorem sumV_rule (kd wd pol : Int) (lo : Bool) (tn : Int) (F : Nat → Nat) (reg j : Nat) (h : j < 5) : (sumV kd wd pol lo tn F reg)[j]? = (ruleV kd wd pol lo tn)[j]? := by
  unfold sumV
  rw [Array.append_assoc, Array.getElem?_append_left (by simpa using h)]

theorem sumV_tab (kd wd pol : Int) (lo : Bool) (tn : Int) (F : Nat → Nat) (reg j : Nat) (h : j < 256) : (sumV kd wd pol lo tn F reg)[5 + j]? = some (.int .u32 (F j : Int)) := by
  unfold sumV
  rw [Array.append_assoc, Array.getElem?_append_right (by simp), Array.getElem?_append_left (by simp [tabV_size]; omega)]
  have e : 5 + j - (ruleV kd wd pol lo tn).size = j := by simp
  rw [e, tabV_get F 256 j h, if_pos h]

theorem sumV_reg (kd wd pol : Int) (lo : Bool) (tn : Int) (F : Nat → Nat) (reg : Nat) : (sumV kd wd pol lo tn F reg)[261]? = some (.int .u32 (reg : Int)) := by
  unfold sumV
  rw [Array.getElem?_append_right (by simp [tabV_size])]
  simp [tabV_size]

theorem sumV_set (kd wd pol : Int) (lo : Bool) (tn : Int) (F : Nat → Nat) (reg r : Nat) : (sumV kd wd pol lo tn F reg).setIfInBounds 261 (.int .u32 (r : Int)) = sumV kd wd pol lo tn F r := by
  apply Array.ext_getElem?
  intro j
  rw [Array.getElem?_setIfInBounds, sumV_size]
  by_cases hj : 261 = j
  · subst hj
    rw [if_pos rfl, if_pos (by decide), sumV_reg]
  · rw [if_neg hj]
    by_cases h5 : j < 5
    · rw [sumV_rule _ _ _ _ _ _ _ _ h5, sumV_rule _ _ _ _ _ _ _ _ h5]
    · by_cases h6 : j < 261
      · obtain ⟨k, rfl⟩ : ∃ k, j = 5 + k := ⟨j - 5, by omega⟩
        rw [sumV_tab _ _ _ _ _ _ _ _ (by omega), sumV_tab _ _ _ _ _ _ _ _ (by omega)]
      · rw [Array.getElem?_eq_none (by rw [sumV_size]; omega), Array.getElem?_eq_none (by rw [sumV_size]; omega)]

theorem zero127 : (Tryd.prog.info? 127).map (fun i => (i.zero, i.size)) = some (some (.agg (#[.int .i64 0, .int .i64 0, .int .u32 0, .bool false, .int .u32 0] ++ Array.replicate 257 (.int .u32 0))), 262) := by kernel_rfl

theorem fold_row (o : Nat) : ∀ (l : List Value) (n : Nat) (base : Array Value), o + n + l.length ≤ base.size → ∀ j,
    ((l.zipIdx n).foldl (fun cs (x : Value × Nat) => cs.setIfInBounds (o + x.snd) x.fst) base)[j]? = (if o + n ≤ j ∧ j < o + n + l.length then l[j - (o + n)]? else base[j]?)
  | [], n, base, h, j => by
    rw [if_neg (by simp)]
    rfl
  | v :: t, n, base, h, j => by
    rw [List.length_cons] at h
    have ih := fold_row o t (n + 1) (base.setIfInBounds (o + n) v) (by rw [Array.size_setIfInBounds]; omega) j
    rw [List.zipIdx_cons, List.foldl_cons, ih, List.length_cons, Array.getElem?_setIfInBounds]
    by_cases hj : o + n = j
    · subst hj
      rw [if_neg (by omega), if_pos rfl, if_pos (by omega), if_pos (by omega)]
      simp
    · rw [if_neg hj]
      by_cases hin : o + (n + 1) ≤ j ∧ j < o + (n + 1) + t.length
      · rw [if_pos hin, if_pos (by omega)]
        have e : j - (o + n) = j - (o + (n + 1)) + 1 := by omega
        rw [e, List.getElem?_cons_succ]
      · rw [if_neg hin, if_neg (by omega)]

/-- What 'build' makes of a rule, a table and a register. -/
theorem built_sum (kd wd pol : Int) (lo : Bool) (tn : Int) (F : Nat → Nat) (r : Nat) (hr : tn = (r : Int)) (Z : Array Value) (hZ : Z.size = 262) :
    (Array.foldl (fun cs (x : Value × Nat) => cs.setIfInBounds (5 + x.snd) x.fst) (((((Z.setIfInBounds 0 (.int .i64 kd)).setIfInBounds 1 (.int .i64 wd)).setIfInBounds 2 (.int .u32 pol)).setIfInBounds 3 (.bool lo)).setIfInBounds 4 (.int .u32 tn)) (tabV F 256).zipIdx 0 256).setIfInBounds 261 (.int .u32 tn)
      = sumV kd wd pol lo tn F r ∧
    (Array.foldl (fun cs (x : Value × Nat) => cs.setIfInBounds (5 + x.snd) x.fst) (((((Z.setIfInBounds 0 (.int .i64 kd)).setIfInBounds 1 (.int .i64 wd)).setIfInBounds 2 (.int .u32 pol)).setIfInBounds 3 (.bool lo)).setIfInBounds 4 (.int .u32 tn)) (tabV F 256).zipIdx 0 256).size = 262 := by
  generalize hB : (((((Z.setIfInBounds 0 (.int .i64 kd)).setIfInBounds 1 (.int .i64 wd)).setIfInBounds 2 (.int .u32 pol)).setIfInBounds 3 (.bool lo)).setIfInBounds 4 (.int .u32 tn)) = B
  have hBs : B.size = 262 := by
    rw [← hB]
    simp [hZ]
  have hfold : Array.foldl (fun cs (x : Value × Nat) => cs.setIfInBounds (5 + x.snd) x.fst) B (tabV F 256).zipIdx 0 256 = ((tabV F 256).toList.zipIdx 0).foldl (fun cs (x : Value × Nat) => cs.setIfInBounds (5 + x.snd) x.fst) B := by
    have e : (tabV F 256).zipIdx.size = 256 := by rw [Array.size_zipIdx, tabV_size]
    have h1 := Array.foldl_toList (xs := (tabV F 256).zipIdx) (fun cs (x : Value × Nat) => cs.setIfInBounds (5 + x.snd) x.fst) (init := B)
    rw [e, Array.toList_zipIdx] at h1
    exact h1.symm
  rw [hfold]
  have hget := fold_row 5 (tabV F 256).toList 0 B (by rw [hBs, Array.length_toList, tabV_size]; decide)
  generalize hM : ((tabV F 256).toList.zipIdx 0).foldl (fun cs (x : Value × Nat) => cs.setIfInBounds (5 + x.snd) x.fst) B = M at hget ⊢
  rw [Array.length_toList, tabV_size] at hget
  have hMs : M.size = 262 := by
    apply Nat.le_antisymm
    · apply Nat.le_of_not_lt
      intro hlt
      have := hget 262
      rw [if_neg (by omega), Array.getElem?_eq_none (xs := B) (by omega)] at this
      have h2 : M[262]? = some M[262] := Array.getElem?_eq_getElem hlt
      rw [h2] at this
      cases this
    · apply Nat.le_of_not_lt
      intro hlt
      have := hget 261
      rw [if_neg (by omega), Array.getElem?_eq_none (by omega)] at this
      have h2 : B[261]? = some (B[261]'(by omega)) := Array.getElem?_eq_getElem (by omega)
      rw [h2] at this
      cases this
  refine ⟨?_, hMs⟩
  apply Array.ext_getElem?
  intro j
  rw [Array.getElem?_setIfInBounds, hMs]
  by_cases hj : 261 = j
  · subst hj
    rw [if_pos rfl, if_pos (by decide), sumV_reg, hr]
  · rw [if_neg hj, hget]
    by_cases h5 : j < 5
    · rw [if_neg (by omega), sumV_rule _ _ _ _ _ _ _ _ h5, ← hB]
      rcases j with _ | _ | _ | _ | _ | j
      · simp [Array.getElem?_setIfInBounds, hZ, ruleV]
      · simp [Array.getElem?_setIfInBounds, hZ, ruleV]
      · simp [Array.getElem?_setIfInBounds, hZ, ruleV]
      · simp [Array.getElem?_setIfInBounds, hZ, ruleV]
      · simp [Array.getElem?_setIfInBounds, hZ, ruleV]
      · omega
    · by_cases h6 : j < 261
      · obtain ⟨k, rfl⟩ : ∃ k, j = 5 + k := ⟨j - 5, by omega⟩
        rw [if_pos (by omega), sumV_tab _ _ _ _ _ _ _ _ (by omega)]
        have e : 5 + k - (5 + 0) = k := by omega
        rw [e, Array.getElem?_toList, tabV_get F 256 k (by omega), if_pos (by omega)]
      · rw [if_neg (by omega), Array.getElem?_eq_none (by omega), Array.getElem?_eq_none (by rw [sumV_size]; omega)]

end S3
end Go.Proofs.YtjkamannjgcmiaaDoor
