/- Own text. -/
import Derived.Deep.WholeRow
import Derived.Laws.ResultCell
import Derived.Deep.Cut
import Derived.Test.YtfpfabmbipmipaaGreatDoorB15
import Derived.Handy
set_option linter.unusedSimpArgs false
set_option linter.unusedVariables false
set_option maxRecDepth 20000
set_option maxHeartbeats 12800000
namespace Go.Proofs.YtfpfabmbipmipaaGreatDoor
open Go.RowKit
namespace S3
theorem info198 : (Tryz.prog.info? 198).map (fun i => (i.zero, i.size)) = some (some (.agg (Array.replicate 256 (.int .u32 0))), 256) := by kernel_rfl
theorem block_setCell (w : World) (p i : Nat) (cs : Array Value) (t : TypeId) (u : Value) (h : w.heap[p]? = some (.cells cs t (0, 0))) :
  (w.setCell ⟨p, i, none⟩ u).heap[p]? = some (.cells (cs.setIfInBounds i u) t (0, 0)) := by
 simp only [World.setCell, Array.getElem?_modify, h]
 simp
def tabV (F : Nat -> Nat) (k : Nat) : Array Value := ((List.range 256).map fun j => Value.int .u32 (((if j < k then F j else 0) : Nat) : Int)).toArray
theorem tabV_size (F : Nat -> Nat) (k : Nat) : (tabV F k).size = 256 := by simp [tabV]
theorem tabV_get (F : Nat -> Nat) (k j : Nat) (h : j < 256) : (tabV F k)[j]? = some (.int .u32 (((if j < k then F j else 0) : Nat) : Int)) := by simp [tabV, h]
theorem tabV_zero (F : Nat -> Nat) : tabV F 0 = Array.replicate 256 (.int .u32 0) := by
 apply Array.ext_getElem?
 intro j
 by_cases h : j < 256
 ·rw [tabV_get F 0 j h]
  simp [h]
 ·rw [Array.getElem?_eq_none (by rw [tabV_size]; omega), Array.getElem?_eq_none (by simp; omega)]
theorem tabV_set (F : Nat -> Nat) (k : Nat) (h : k < 256) : (tabV F k).setIfInBounds k (.int .u32 (F k : Int)) = tabV F (k + 1) := by
 apply Array.ext_getElem?
 intro j
 rw [Array.getElem?_setIfInBounds, tabV_size]
 by_cases hj : j < 256
 ·by_cases hk : k = j
  ·subst hk
   rw [if_pos rfl, if_pos h, tabV_get F _ _ hj]
   simp
  ·rw [if_neg hk, tabV_get F _ _ hj, tabV_get F _ _ hj]
   have : (j < k) = (j < k + 1) := propext ⟨fun h => by omega, fun h => by omega⟩
   simp only [this]
 ·rw [Array.getElem?_eq_none (by rw [tabV_size]; omega), Array.getElem?_eq_none (by rw [tabV_size]; omega), if_neg (by omega)]
theorem low_bit : ∀ i : Fin 256, i.val &&& (i.val - 1) = 0 ∨ ((i.val &&& (i.val - 1)) < i.val /\ (i.val ^^^ (i.val &&& (i.val - 1))) < i.val /\ (i.val &&& (i.val - 1)) ^^^ (i.val ^^^ (i.val &&& (i.val - 1))) = i.val) := by decide +kernel
theorem and_less (i : Nat) (h : i < 256) : bits .and .i64 (i : Int) ((i : Int) - 1) = ((i &&& (i - 1) : Nat) : Int) := by
 by_cases h0 : i = 0
 ·subst h0
  decide
 ·have e : (i : Int) - 1 = ((i - 1 : Nat) : Int) := by omega
  rw [e, i64_and_nat _ _ (by omega) (by omega)]
section
variable {P : Program} {ops : Array Oper} {rest : List Oper} {Q : Exit -> Act -> World -> Prop} {a : Act} {w : World}
theorem wpList_load_row (t : TypeId) {dst : Option Tmp} {x : Operand} {ty : TypeId} {pos : String} {after : Array Edge} (b : Nat) (c : Array Value) (t' : TypeId) (fz : Nat × Nat) (d : TypeDesc) (hu : P.underlying t = some d) (hd : (match d with | .struct _ | .array _ _ => true | _ => false) = true)
  (hi : (P.info? t).map (·.size) = some c.size) (hx : a.eval x = .pointer (some ⟨b, 0, none⟩)) (hb : w.heap[b]? = some (.cells c t' fz)) (h : wpList P ops Q rest (a.put dst (.agg c)) w) :
  wpList P ops Q (⟨dst, .load t x, ty, pos, after, none⟩ :: rest) a w := by
 refine wpList_plain rfl fun K hK => ?_
 unfold Oper.wp
 simp only [execOp, hx, Instr.loadAt, Instr.sureAddr, Sem.run_bind, Sem.run_pure, Result.andThen_ok, run_loadVar_row w b t' t c fz d hb hu hd hi]
 exact hK _ _ h
end
theorem lt_of {w : World} {b : Nat} {o : Obj} (h : w.heap[b]? = some o) : b < w.heap.size := lt_of_block h
theorem at_new3 (w : World) (a b c : Obj) : (((w.alloc a).alloc b).alloc c).heap[w.heap.size + 2]? = some c := by
 have h := heap_alloc_last ((w.alloc a).alloc b) c
 have e : ((w.alloc a).alloc b).heap.size = w.heap.size + 2 := by simp
 rwa [e] at h
theorem at_new2 (w : World) (a b c : Obj) : (((w.alloc a).alloc b).alloc c).heap[w.heap.size + 1]? = some b := by
 rw [Below.heap_alloc _ _ _ (by simp)]
 have h := heap_alloc_last (w.alloc a) b
 have e : (w.alloc a).heap.size = w.heap.size + 1 := by simp
 rwa [e] at h
theorem at_new1 (w : World) (a b c : Obj) : (((w.alloc a).alloc b).alloc c).heap[w.heap.size]? = some a := by
 rw [Below.heap_alloc _ _ _ (by simp; omega), Below.heap_alloc _ _ _ (by simp)]
 exact heap_alloc_last w a
theorem results_cell {fn : Func} {p : Tmp} {ty : TypeId} (h : fn.results = #[.cell p ty]) (tmps : Array Value) (P : Program) (w : World) :
  (results fn tmps).run P w = ((asAddr (tmps.getD p undef)).run P w).andThen fun a w₁ => (loadVar ty a).run P w₁ := by
 simp only [results, h]
 simp [Sem.run_bind, Result.andThen]
abbrev ruleV (kd wd pol : Int) (lo : Bool) (tn : Int) : Array Value := #[.int .i64 kd, .int .i64 wd, .int .u32 pol, .bool lo, .int .u32 tn]
theorem table_spec (kd wd pol tn : Int) (lo : Bool) (F : Nat -> Nat) (hF : ∀ j, F j < 4294967296) (hX : ∀ a b, F (a ^^^ b) = F a ^^^ F b)
  (hM : ∀ (b : Nat), b < 256 -> ∀ w, Calls Tryz.prog 196 #[.agg (ruleV kd wd pol lo tn), .int .u32 (b : Int)] w fun e w' => e = .returned (.int .u32 (F b : Int)) /\ Lo w w') (w : World) :
  Calls Tryz.prog 164 #[.agg (ruleV kd wd pol lo tn)] w fun e w' => e = .returned (.agg (tabV F 256)) /\ Lo w w' := by
 have hz := (zero_of_info info198).1
 rw [<- tabV_zero F] at hz
 have HI : Hid ((Tryz.prog.info? 198).map (·.size) = some 256) := (zero_of_info info198).2
 have hZs : Hid ((tabV F 0).size = 256) := tabV_size F 0
 have HM := kQ hM
 have HX := kQ hX
 have HF := kQ hF
 clear hM hX hF
 go_enter Tryz.func164, Tryz.ntmps164
 go_wp2_with fail
 go_loopw [6] (fun t wr => ∃ i : Nat, i <= 256 /\ t = .int .i64 (i : Int) /\ wr.heap[w.heap.size + 2]? = some (.cells (tabV F i) 198 (0, 0)) /\ wr.heap[w.heap.size + 1]? = some (.cells (tabV F 0) 198 (0, 0)) /\ wr.heap[w.heap.size]? = some (.cells (ruleV kd wd pol lo tn) 195 (0, 0)) /\ Lo w wr) (fun t _ => 256 - (intOf t).toNat)
 case atStart =>
  refine ⟨0, Nat.zero_le _, rfl, ?_, ?_, ?_, ?_⟩
  ·exact at_new3 w _ _ _
  ·exact at_new2 w _ _ _
  ·exact at_new1 w _ _ _
  ·exact (((Below.refl w.heap.size w).alloc (Nat.le_refl _) _).alloc (by simp) _).alloc (by simp; omega) _
 case round =>
  obtain ⟨i, hi, rfl, hb2, hb1, hb0, hB⟩ := hrel
  by_cases hlt : i < 256
  ·have hand := and_less i hlt
   have hsz := hB.size
   have hl2 := lt_of hb2
   rcases low_bit ⟨i, hlt⟩ with h0 | ⟨h1, h2, h3⟩
   ·simp only at h0
    rw [h0] at hand
    have HB2 := kQ hb2
    have HB1 := kQ hb1
    have HB0 := kQ hb0
    have HB := kQ hB
    have HL2 := kQ hl2
    have c0 : wr.cell? ⟨w.heap.size, 0, none⟩ = some (.int .i64 kd) := by rw [cell_of_row _ _ _ _ _ _ hb0]; rfl
    have c1 : wr.cell? ⟨w.heap.size, 1, none⟩ = some (.int .i64 wd) := by rw [cell_of_row _ _ _ _ _ _ hb0]; rfl
    have c2 : wr.cell? ⟨w.heap.size, 2, none⟩ = some (.int .u32 pol) := by rw [cell_of_row _ _ _ _ _ _ hb0]; rfl
    have c3 : wr.cell? ⟨w.heap.size, 3, none⟩ = some (.bool lo) := by rw [cell_of_row _ _ _ _ _ _ hb0]; rfl
    have c4 : wr.cell? ⟨w.heap.size, 4, none⟩ = some (.int .u32 tn) := by rw [cell_of_row _ _ _ _ _ _ hb0]; rfl
    clear hb2 hb1 hb0 hB h0 hl2 hsz
    go_wp2_with fail
    refine (HM.out i hlt _).mono ?_
    rintro e w1 ⟨rfl, hB1⟩
    have K2 : Hid (w1.heap[w.heap.size + 2]? = some (.cells (tabV F i) 198 (0, 0))) := by
     show _ = _
     rw [hB1.block _ HL2.out]; exact HB2.out
    have K1 : Hid (w1.heap[w.heap.size + 1]? = some (.cells (tabV F 0) 198 (0, 0))) := by
     show _ = _
     rw [hB1.block _ (by have := HL2.out; omega)]; exact HB1.out
    have K0 : Hid (w1.heap[w.heap.size]? = some (.cells (ruleV kd wd pol lo tn) 195 (0, 0))) := by
     show _ = _
     rw [hB1.block _ (by have := HL2.out; omega)]; exact HB0.out
    have KB := kQ (HB.out.trans (hB1.mono HB.out.size))
    have ci : w1.cell? ⟨w.heap.size + 1 + 1, i, none⟩ = some (.int .u32 0) := by
     rw [cell_of_row _ _ _ _ _ _ K2.out, tabV_get F i i hlt]
     simp
    have fi : w1.frozen? ⟨w.heap.size + 1 + 1, i, none⟩ = false := by
     have := K2.out
     simp [World.frozen?, this]
    clear hB1
    go_wp2
    go_roundw
    case rel =>
     exact ⟨i + 1, by omega, by go_num, by rw [block_setCell _ _ _ _ _ _ K2.out, tabV_set F i hlt], by rw [Below.heap_setCell _ _ _ _ (by simp)]; exact K1.out,
      by rw [Below.heap_setCell _ _ _ _ (by simp; omega)]; exact K0.out, KB.out.setCell (by simp; omega) _⟩
    case measure => simp [intOf]; omega
   ·simp only at h1 h2 h3
    have hr0 : ¬ ((i &&& (i - 1) : Nat) : Int) = 0 := by
     intro e
     have e' : i &&& (i - 1) = 0 := by omega
     rw [e'] at h2
     simp at h2
    have hxor : bits .xor .i64 (i : Int) ((i &&& (i - 1) : Nat) : Int) = ((i ^^^ (i &&& (i - 1)) : Nat) : Int) := i64_xor_nat _ _ (by omega) (by omega)
    generalize i &&& (i - 1) = r at *
    generalize hq : i ^^^ r = q at *
    have hfx : bits .xor .u32 (F r : Int) (F q : Int) = (F i : Int) := by
     rw [u32_xor_nat _ _ (HF.out r) (HF.out q), <- HX.out, h3]
    have cr : wr.cell? ⟨w.heap.size + 1 + 1, r, none⟩ = some (.int .u32 (F r : Int)) := by
     rw [cell_of_row _ _ _ _ _ _ hb2, tabV_get F i r (by omega), if_pos h1]
    have cq : wr.cell? ⟨w.heap.size + 1 + 1, q, none⟩ = some (.int .u32 (F q : Int)) := by
     rw [cell_of_row _ _ _ _ _ _ hb2, tabV_get F i q (by omega), if_pos h2]
    have ci : wr.cell? ⟨w.heap.size + 1 + 1, i, none⟩ = some (.int .u32 0) := by
     rw [cell_of_row _ _ _ _ _ _ hb2, tabV_get F i i hlt]
     simp
    have fi : wr.frozen? ⟨w.heap.size + 1 + 1, i, none⟩ = false := by
     simp [World.frozen?, hb2]
    have K2 := kQ hb2
    have K1 := kQ hb1
    have K0 := kQ hb0
    have KB := kQ hB
    clear hb2 hb1 hb0 hB h3 hq hl2 hsz
    go_wp2_with fail
    go_region
    all_goals go_wp2
    go_roundw
    case rel =>
     refine ⟨i + 1, by omega, by go_num, ?_, ?_, ?_, (KB.out.setCell (by simp; omega) _).drew⟩
     ·show (wr.setCell _ _).heap[_]? = _
      rw [block_setCell _ _ _ _ _ _ K2.out, tabV_set F i hlt]
     ·show (wr.setCell _ _).heap[_]? = _
      rw [Below.heap_setCell _ _ _ _ (by simp)]
      exact K1.out
     ·show (wr.setCell _ _).heap[_]? = _
      rw [Below.heap_setCell _ _ _ _ (by simp; omega)]
      exact K0.out
    case measure => simp [intOf]; omega
  ·have h8 : i = 256 := by omega
   have HB2 : Hid (wr.heap[w.heap.size + 2]? = some (.cells (tabV F 256) 198 (0, 0))) := by rw [h8] at hb2; exact hb2
   have HB1 := kQ hb1
   have HB := kQ hB
   clear hb2 hb1 hb0 hB h8
   go_upto_region 10 with fail
   go_wp2_with (first | (refine wpList_load_row 198 (w.heap.size + 2) (tabV F 256) 198 (0, 0) (.array 256 193) Tryz.underlying198 rfl (by rw [tabV_size]; exact HI.out) rfl HB2.out ?_) | (refine wpList_store_row rfl 198 (.tmp 2) (.tmp 33) rfl (w.heap.size + 1) (tabV F 256) rfl rfl 198 (tabV F 0) HB1.out (by rw [tabV_size]; exact HI.out) (by rw [tabV_size, tabV_size]) (by simp [tabV, Value.oneCell']) ?_))
   refine bodyPost_ret (v := .agg (tabV F 256)) ?_ rfl ⟨rfl, ?_⟩
   ·rw [results_cell rfl]
    have hld := run_loadVar_row (P := Tryz.prog) _ (w.heap.size + 1) 198 198 (tabV F 256) (0, 0) _ (setRow_heap wr (w.heap.size + 1) _ (tabV F 256) 198 (0, 0) HB1.out) Tryz.underlying198 rfl (by rw [tabV_size]; exact HI.out)
    simp [asAddr, Result.andThen, Act.put, hld]
   ·exact HB.out.trans ⟨rfl, rfl, rfl, by simp, fun k hk => setRow_other _ _ _ _ (by omega)⟩
def rulesA : Array Value := #[.int .i64 8, .int .i64 8, .int .u32 7, .bool false, .int .u32 0, .int .i64 16, .int .i64 16, .int .u32 32773, .bool false, .int .u32 0,
 .int .i64 32, .int .i64 32, .int .u32 79764919, .bool false, .int .u32 0, .int .i64 33, .int .i64 32, .int .u32 3988292384, .bool true, .int .u32 4294967295]
def RulesAt (w : World) : Prop := ∃ t fz, w.heap[3]? = some (.cells rulesA t fz)
theorem RulesAt.size {w : World} (h : RulesAt w) : 3 < w.heap.size := by
 obtain ⟨t, fz, h⟩ := h
 exact lt_of_block h
theorem RulesAt.below {w w' : World} (h : RulesAt w) (hB : Lo w w') : RulesAt w' := by
 have hs := h.size
 obtain ⟨t, fz, h⟩ := h
 exact ⟨t, fz, by rw [hB.block 3 hs]; exact h⟩
theorem info225 : (Tryz.prog.info? 225).map (·.size) = some rulesA.size := by kernel_rfl
theorem idx0 (w : World) : (Instr.index 225 (.agg rulesA) (.int .i64 0)).run Tryz.prog w = .ok (.agg (ruleV 8 8 7 false 0)) w := by kernel_rfl
theorem idx1 (w : World) : (Instr.index 225 (.agg rulesA) (.int .i64 1)).run Tryz.prog w = .ok (.agg (ruleV 16 16 32773 false 0)) w := by kernel_rfl
theorem idx2 (w : World) : (Instr.index 225 (.agg rulesA) (.int .i64 2)).run Tryz.prog w = .ok (.agg (ruleV 32 32 79764919 false 0)) w := by kernel_rfl
theorem idx3 (w : World) : (Instr.index 225 (.agg rulesA) (.int .i64 3)).run Tryz.prog w = .ok (.agg (ruleV 33 32 3988292384 true 4294967295)) w := by kernel_rfl
theorem ruleOf_8 (w : World) (hR : RulesAt w) :
  Calls Tryz.prog 163 #[.int .i64 8] w fun e w' => e = .returned (.tuple #[.agg (ruleV 8 8 7 false 0), .bool true]) /\ Lo w w' := by
 obtain ⟨t, fz, hb⟩ := hR
 have HB : Hid ((w.alloc (.cells #[.int .i64 0, .int .i64 0, .int .u32 0, .bool false, .int .u32 0] 195)).heap[3]? = some (.cells rulesA t fz)) := by
  show _ = _
  rw [Below.heap_alloc _ _ _ (lt_of_block hb)]
  exact hb
 have hs := lt_of_block hb
 clear hb
 have i0 := idx0
 have i1 := idx1
 have i2 := idx2
 have i3 := idx3
 go_enter Tryz.func163, Tryz.ntmps163
 go_wp2_with (refine wpList_load_row 225 3 rulesA t fz (.array 4 195) Tryz.underlying225 rfl info225 rfl HB.out ?_)
 clear HB
 refine wp_loop_rounds 1 ?_
 rw [rounds_succ]
 go_wp2
 refine bodyPost_ret (v := .tuple #[.agg (ruleV 8 8 7 false 0), .bool true]) ?_ rfl ⟨rfl, ?_⟩
 ·rw [results_cell_tmp rfl]
  simp [asAddr, Result.andThen, go_sem]
 ·exact aQ.alloc (by simp) _
theorem ruleOf_16 (w : World) (hR : RulesAt w) :
  Calls Tryz.prog 163 #[.int .i64 16] w fun e w' => e = .returned (.tuple #[.agg (ruleV 16 16 32773 false 0), .bool true]) /\ Lo w w' := by
 obtain ⟨t, fz, hb⟩ := hR
 have HB : Hid ((w.alloc (.cells #[.int .i64 0, .int .i64 0, .int .u32 0, .bool false, .int .u32 0] 195)).heap[3]? = some (.cells rulesA t fz)) := by
  show _ = _
  rw [Below.heap_alloc _ _ _ (lt_of_block hb)]
  exact hb
 have hs := lt_of_block hb
 clear hb
 have i0 := idx0
 have i1 := idx1
 have i2 := idx2
 have i3 := idx3
 go_enter Tryz.func163, Tryz.ntmps163
 go_wp2_with (refine wpList_load_row 225 3 rulesA t fz (.array 4 195) Tryz.underlying225 rfl info225 rfl HB.out ?_)
 clear HB
 refine wp_loop_rounds 2 ?_
 rw [rounds_succ]
 go_wp2
 rw [rounds_succ]
 go_wp2
 refine bodyPost_ret (v := .tuple #[.agg (ruleV 16 16 32773 false 0), .bool true]) ?_ rfl ⟨rfl, ?_⟩
 ·rw [results_cell_tmp rfl]
  simp [asAddr, Result.andThen, go_sem]
 ·exact (aQ.alloc (by simp) _).alloc (by simp; omega) _
def sumV (kd wd pol : Int) (lo : Bool) (tn : Int) (F : Nat -> Nat) (reg : Nat) : Array Value := ruleV kd wd pol lo tn ++ tabV F 256 ++ #[.int .u32 (reg : Int)]
theorem sumV_size (kd wd pol : Int) (lo : Bool) (tn : Int) (F : Nat -> Nat) (reg : Nat) : (sumV kd wd pol lo tn F reg).size = 262 := by
 simp [sumV, tabV_size, ruleV]
theorem sumV_rule (kd wd pol : Int) (lo : Bool) (tn : Int) (F : Nat -> Nat) (reg j : Nat) (h : j < 5) : (sumV kd wd pol lo tn F reg)[j]? = (ruleV kd wd pol lo tn)[j]? := by
 unfold sumV
 rw [Array.append_assoc, Array.getElem?_append_left (by simpa using h)]
theorem sumV_tab (kd wd pol : Int) (lo : Bool) (tn : Int) (F : Nat -> Nat) (reg j : Nat) (h : j < 256) : (sumV kd wd pol lo tn F reg)[5 + j]? = some (.int .u32 (F j : Int)) := by
 unfold sumV
 rw [Array.append_assoc, Array.getElem?_append_right (by simp), Array.getElem?_append_left (by simp [tabV_size]; omega)]
 have e : 5 + j - (ruleV kd wd pol lo tn).size = j := by simp
 rw [e, tabV_get F 256 j h, if_pos h]
theorem sumV_reg (kd wd pol : Int) (lo : Bool) (tn : Int) (F : Nat -> Nat) (reg : Nat) : (sumV kd wd pol lo tn F reg)[261]? = some (.int .u32 (reg : Int)) := by
 unfold sumV
 rw [Array.getElem?_append_right (by simp [tabV_size])]
 simp [tabV_size]
theorem sumV_set (kd wd pol : Int) (lo : Bool) (tn : Int) (F : Nat -> Nat) (reg r : Nat) : (sumV kd wd pol lo tn F reg).setIfInBounds 261 (.int .u32 (r : Int)) = sumV kd wd pol lo tn F r := by
 apply Array.ext_getElem?
 intro j
 rw [Array.getElem?_setIfInBounds, sumV_size]
 by_cases hj : 261 = j
 ·subst hj
  rw [if_pos rfl, if_pos (by decide), sumV_reg]
 ·rw [if_neg hj]
  by_cases h5 : j < 5
  ·rw [sumV_rule _ _ _ _ _ _ _ _ h5, sumV_rule _ _ _ _ _ _ _ _ h5]
  ·by_cases h6 : j < 261
   ·obtain ⟨k, rfl⟩ : ∃ k, j = 5 + k := ⟨j - 5, by omega⟩
    rw [sumV_tab _ _ _ _ _ _ _ _ (by omega), sumV_tab _ _ _ _ _ _ _ _ (by omega)]
   ·rw [Array.getElem?_eq_none (by rw [sumV_size]; omega), Array.getElem?_eq_none (by rw [sumV_size]; omega)]
theorem zero201 : (Tryz.prog.info? 201).map (fun i => (i.zero, i.size)) = some (some (.agg (#[.int .i64 0, .int .i64 0, .int .u32 0, .bool false, .int .u32 0] ++ Array.replicate 257 (.int .u32 0))), 262) := by kernel_rfl
theorem fold_row (o : Nat) : ∀ (l : List Value) (n : Nat) (base : Array Value), o + n + l.length <= base.size -> ∀ j,
  ((l.zipIdx n).foldl (fun cs (x : Value × Nat) => cs.setIfInBounds (o + x.snd) x.fst) base)[j]? = (if o + n <= j /\ j < o + n + l.length then l[j - (o + n)]? else base[j]?)
 | [], n, base, h, j => by
  rw [if_neg (by simp)]
  rfl
 | v :: t, n, base, h, j => by
  rw [List.length_cons] at h
  have ih := fold_row o t (n + 1) (base.setIfInBounds (o + n) v) (by rw [Array.size_setIfInBounds]; omega) j
  rw [List.zipIdx_cons, List.foldl_cons, ih, List.length_cons, Array.getElem?_setIfInBounds]
  by_cases hj : o + n = j
  ·subst hj
   rw [if_neg (by omega), if_pos rfl, if_pos (by omega), if_pos (by omega)]
   simp
  ·rw [if_neg hj]
   by_cases hin : o + (n + 1) <= j /\ j < o + (n + 1) + t.length
   ·rw [if_pos hin, if_pos (by omega)]
    have e : j - (o + n) = j - (o + (n + 1)) + 1 := by omega
    rw [e, List.getElem?_cons_succ]
   ·rw [if_neg hin, if_neg (by omega)]
theorem built_sum (kd wd pol : Int) (lo : Bool) (tn : Int) (F : Nat -> Nat) (r : Nat) (hr : tn = (r : Int)) (Z : Array Value) (hZ : Z.size = 262) :
  (Array.foldl (fun cs (x : Value × Nat) => cs.setIfInBounds (5 + x.snd) x.fst) (((((Z.setIfInBounds 0 (.int .i64 kd)).setIfInBounds 1 (.int .i64 wd)).setIfInBounds 2 (.int .u32 pol)).setIfInBounds 3 (.bool lo)).setIfInBounds 4 (.int .u32 tn)) (tabV F 256).zipIdx 0 256).setIfInBounds 261 (.int .u32 tn)
   = sumV kd wd pol lo tn F r /\
  (Array.foldl (fun cs (x : Value × Nat) => cs.setIfInBounds (5 + x.snd) x.fst) (((((Z.setIfInBounds 0 (.int .i64 kd)).setIfInBounds 1 (.int .i64 wd)).setIfInBounds 2 (.int .u32 pol)).setIfInBounds 3 (.bool lo)).setIfInBounds 4 (.int .u32 tn)) (tabV F 256).zipIdx 0 256).size = 262 := by
 generalize hB : (((((Z.setIfInBounds 0 (.int .i64 kd)).setIfInBounds 1 (.int .i64 wd)).setIfInBounds 2 (.int .u32 pol)).setIfInBounds 3 (.bool lo)).setIfInBounds 4 (.int .u32 tn)) = B
 have hBs : B.size = 262 := by
  rw [<- hB]
  simp [hZ]
 have hfold : Array.foldl (fun cs (x : Value × Nat) => cs.setIfInBounds (5 + x.snd) x.fst) B (tabV F 256).zipIdx 0 256 = ((tabV F 256).toList.zipIdx 0).foldl (fun cs (x : Value × Nat) => cs.setIfInBounds (5 + x.snd) x.fst) B := by
  have e : (tabV F 256).zipIdx.size = 256 := by rw [Array.size_zipIdx, tabV_size]
  have h1 := Array.foldl_toList (xs := (tabV F 256).zipIdx) (fun cs (x : Value × Nat) => cs.setIfInBounds (5 + x.snd) x.fst) (init := B)
  rw [e, Array.toList_zipIdx] at h1
  exact h1.symm
 rw [hfold]
 have hget := fold_row 5 (tabV F 256).toList 0 B (by rw [hBs, Array.length_toList, tabV_size]; decide)
 generalize hM : ((tabV F 256).toList.zipIdx 0).foldl (fun cs (x : Value × Nat) => cs.setIfInBounds (5 + x.snd) x.fst) B = M at hget ⊢
 rw [Array.length_toList, tabV_size] at hget
 have hMs : M.size = 262 := by
  apply Nat.le_antisymm
  ·apply Nat.le_of_not_lt
   intro hlt
   have := hget 262
   rw [if_neg (by omega), Array.getElem?_eq_none (xs := B) (by omega)] at this
   have h2 : M[262]? = some M[262] := Array.getElem?_eq_getElem hlt
   rw [h2] at this
   cases this
  ·apply Nat.le_of_not_lt
   intro hlt
   have := hget 261
   rw [if_neg (by omega), Array.getElem?_eq_none (by omega)] at this
   have h2 : B[261]? = some (B[261]'(by omega)) := Array.getElem?_eq_getElem (by omega)
   rw [h2] at this
   cases this
 refine ⟨?_, hMs⟩
 apply Array.ext_getElem?
 intro j
 rw [Array.getElem?_setIfInBounds, hMs]
 by_cases hj : 261 = j
 ·subst hj
  rw [if_pos rfl, if_pos (by decide), sumV_reg, hr]
 ·rw [if_neg hj, hget]
  by_cases h5 : j < 5
  ·rw [if_neg (by omega), sumV_rule _ _ _ _ _ _ _ _ h5, <- hB]
   rcases j with _ | _ | _ | _ | _ | j
   ·simp [Array.getElem?_setIfInBounds, hZ, ruleV]
   ·simp [Array.getElem?_setIfInBounds, hZ, ruleV]
   ·simp [Array.getElem?_setIfInBounds, hZ, ruleV]
   ·simp [Array.getElem?_setIfInBounds, hZ, ruleV]
   ·simp [Array.getElem?_setIfInBounds, hZ, ruleV]
   ·omega
  ·by_cases h6 : j < 261
   ·obtain ⟨k, rfl⟩ : ∃ k, j = 5 + k := ⟨j - 5, by omega⟩
    rw [if_pos (by omega), sumV_tab _ _ _ _ _ _ _ _ (by omega)]
    have e : 5 + k - (5 + 0) = k := by omega
    rw [e, Array.getElem?_toList, tabV_get F 256 k (by omega), if_pos (by omega)]
   ·rw [if_neg (by omega), Array.getElem?_eq_none (by omega), Array.getElem?_eq_none (by rw [sumV_size]; omega)]
theorem new_spec (k kd wd pol tn : Int) (lo : Bool) (T : Array Value) (C : Array Value) (hC : C.size = 262)
  (hrule : ∀ w, RulesAt w → Calls Tryz.prog 163 #[.int .i64 k] w fun e w' => e = .returned (.tuple #[.agg (ruleV kd wd pol lo tn), .bool true]) ∧ Below w.heap.size w w')
  (htab : ∀ w, Calls Tryz.prog 164 #[.agg (ruleV kd wd pol lo tn)] w fun e w' => e = .returned (.agg T) ∧ Below w.heap.size w w')
  (Z M : Array Value) (hz : ∀ w, (zeroValue 201).run Tryz.prog w = .ok (.agg Z) w) (hZ : Z.size = 262) (hT : T.size = 256)
  (hM : Array.foldl (fun cs (x : Value × Nat) => cs.setIfInBounds (5 + x.snd) x.fst) (((((Z.setIfInBounds 0 (.int .i64 kd)).setIfInBounds 1 (.int .i64 wd)).setIfInBounds 2 (.int .u32 pol)).setIfInBounds 3 (.bool lo)).setIfInBounds 4 (.int .u32 tn)) T.zipIdx 0 256 = M)
  (hMs : M.size = 262) (hMC : M.setIfInBounds 261 (.int .u32 tn) = C)
  (w : World) (hR : RulesAt w) :
  Calls Tryz.prog 122 #[.int .i64 k] w fun e w' => ∃ q, e = .returned (.pointer (some ⟨q, 0, none⟩)) ∧ w.heap.size ≤ q ∧ w'.heap[q]? = some (.cells C 201 (0, 0)) ∧ Below w.heap.size w w' := by
 have HR : Hid (∀ w, RulesAt w → Calls Tryz.prog 163 #[.int .i64 k] w fun e w' => e = .returned (.tuple #[.agg (ruleV kd wd pol lo tn), .bool true]) ∧ Below w.heap.size w w') := hrule
 have HT : Hid (∀ w, Calls Tryz.prog 164 #[.agg (ruleV kd wd pol lo tn)] w fun e w' => e = .returned (.agg T) ∧ Below w.heap.size w w') := htab
 clear hrule htab
 go_enter Tryz.func122, Tryz.ntmps122
 go_wp2_with fail
 refine (HR.out w hR).mono ?_
 rintro e w1 ⟨rfl, hB⟩
 have HB : Hid (Below w.heap.size w w1) := hB
 clear hB
 go_wp2_with fail
 generalize hwa : w1.alloc (.cells #[.int .i64 kd, .int .i64 wd, .int .u32 pol, .bool lo, .int .u32 tn] 195) = wa
 generalize hb : w1.heap.size = b
 have hrow : wa.heap[b]? = some (.cells (ruleV kd wd pol lo tn) 195 (0, 0)) := by
  rw [← hwa, ← hb]
  exact heap_alloc_last _ _
 have HW : Hid (Below w.heap.size w wa) := by
  rw [← hwa]
  exact HB.out.alloc HB.out.size _
 have HL : Hid (b < wa.heap.size) := lt_of_block hrow
 have hcells : ∀ w2, Below wa.heap.size wa.drew w2 → w2.cell? ⟨b, 0, none⟩ = some (.int .i64 kd) ∧ w2.cell? ⟨b, 1, none⟩ = some (.int .i64 wd) ∧ w2.cell? ⟨b, 2, none⟩ = some (.int .u32 pol) ∧ w2.cell? ⟨b, 3, none⟩ = some (.bool lo) ∧ w2.cell? ⟨b, 4, none⟩ = some (.int .u32 tn) := by
  intro w2 h2
  have h3 : w2.heap[b]? = some (.cells (ruleV kd wd pol lo tn) 195 (0, 0)) := by rw [h2.block b HL.out]; exact hrow
  refine ⟨?_, ?_, ?_, ?_, ?_⟩ <;> rw [cell_of_row _ _ _ _ _ _ h3] <;> rfl
 obtain ⟨c0, c1, c2, c3, c4⟩ := hcells wa ⟨rfl, rfl, rfl, Nat.le_refl _, fun _ _ => rfl⟩
 have HC : Hid (∀ w2, Below wa.heap.size wa.drew w2 → w2.cell? ⟨b, 0, none⟩ = some (.int .i64 kd) ∧ w2.cell? ⟨b, 1, none⟩ = some (.int .i64 wd) ∧ w2.cell? ⟨b, 2, none⟩ = some (.int .u32 pol) ∧ w2.cell? ⟨b, 3, none⟩ = some (.bool lo) ∧ w2.cell? ⟨b, 4, none⟩ = some (.int .u32 tn)) := hcells
 clear hcells hrow hwa hb HB
 go_region_with (go_at_call 164; refine (HT.out _).mono ?_; rintro e w2 ⟨rfl, hB2⟩; obtain ⟨e0, e1, e2, e3, e4⟩ := HC.out w2 hB2; have HB2 : Hid (Below wa.heap.size wa.drew w2) := hB2; clear hB2)
 all_goals go_wp2
 all_goals go_ret
 all_goals exact ⟨_, rfl, Nat.le_trans HW.out.size HB2.out.size, heap_alloc_last _ _, (HW.out.drew.trans (HB2.out.mono HW.out.size)).alloc (Nat.le_trans HW.out.size HB2.out.size) _⟩
def SumAt (w : World) (q : Nat) (kd wd pol : Int) (lo : Bool) (tn : Int) (F : Nat -> Nat) (reg : Nat) : Prop := w.heap[q]? = some (.cells (sumV kd wd pol lo tn F reg) 201 (0, 0))
theorem new_of (k kd wd pol tn : Int) (lo : Bool) (F : Nat -> Nat) (r : Nat) (hr : tn = (r : Int)) (hF : ∀ j, F j < 4294967296) (hX : ∀ a b, F (a ^^^ b) = F a ^^^ F b)
  (hM : ∀ (b : Nat), b < 256 -> ∀ w, Calls Tryz.prog 196 #[.agg (ruleV kd wd pol lo tn), .int .u32 (b : Int)] w fun e w' => e = .returned (.int .u32 (F b : Int)) /\ Lo w w')
  (hrule : ∀ w, RulesAt w -> Calls Tryz.prog 163 #[.int .i64 k] w fun e w' => e = .returned (.tuple #[.agg (ruleV kd wd pol lo tn), .bool true]) /\ Lo w w')
  (w : World) (hR : RulesAt w) :
  Calls Tryz.prog 122 #[.int .i64 k] w fun e w' => ∃ q, e = .returned (.pointer (some ⟨q, 0, none⟩)) /\ w.heap.size <= q /\ SumAt w' q kd wd pol lo tn F r /\ Lo w w' := by
 obtain ⟨h1, h2⟩ := zero_of_info zero201
 obtain ⟨e1, e2⟩ := built_sum kd wd pol lo tn F r hr _ (by simp : (#[.int .i64 0, .int .i64 0, .int .u32 0, .bool false, .int .u32 0] ++ Array.replicate 257 (.int .u32 0) : Array Value).size = 262)
 exact new_spec k kd wd pol tn lo (tabV F 256) (sumV kd wd pol lo tn F r) (sumV_size _ _ _ _ _ _ _) hrule (table_spec kd wd pol tn lo F hF hX hM) _ _ h1 (by simp) (tabV_size _ _) rfl e2 e1 w hR
abbrev S8 (w : World) (q : Nat) (reg : Nat) : Prop := SumAt w q 8 8 7 false 0 (fun b => (byteStep P8 0#32 b).toNat) reg
abbrev S16 (w : World) (q : Nat) (reg : Nat) : Prop := SumAt w q 16 16 32773 false 0 (fun b => (byteStep P16 0#32 b).toNat) reg
theorem new_8 (w : World) (hR : RulesAt w) : Calls Tryz.prog 122 #[.int .i64 8] w fun e w' => ∃ q, e = .returned (.pointer (some ⟨q, 0, none⟩)) /\ w.heap.size <= q /\ S8 w' q 0 /\ Lo w w' :=
 new_of 8 8 8 7 0 false _ 0 rfl (fun j => lt32 _) (fun a b => by simp only [byteStep_zero_xor, BitVec.toNat_xor]) (fun b hb w => movedOf_high 8 8 7 0 (by decide) (by decide) P8 (by decide) b hb w) ruleOf_8 w hR
theorem new_16 (w : World) (hR : RulesAt w) : Calls Tryz.prog 122 #[.int .i64 16] w fun e w' => ∃ q, e = .returned (.pointer (some ⟨q, 0, none⟩)) /\ w.heap.size <= q /\ S16 w' q 0 /\ Lo w w' :=
 new_of 16 16 16 32773 0 false _ 0 rfl (fun j => lt32 _) (fun a b => by simp only [byteStep_zero_xor, BitVec.toNat_xor]) (fun b hb w => movedOf_high 16 16 32773 0 (by decide) (by decide) P16 (by decide) b hb w) ruleOf_16 w hR
section
variable {w : World} {q : Nat} {kd wd pol : Int} {lo : Bool} {tn : Int} {F : Nat -> Nat} {reg : Nat}
theorem SumAt.c1 (h : SumAt w q kd wd pol lo tn F reg) : w.cell? ⟨q, 1, none⟩ = some (.int .i64 wd) := by rw [cell_of_row _ _ _ _ _ _ h, sumV_rule _ _ _ _ _ _ _ _ (by decide)]; rfl
theorem SumAt.c3 (h : SumAt w q kd wd pol lo tn F reg) : w.cell? ⟨q, 3, none⟩ = some (.bool lo) := by rw [cell_of_row _ _ _ _ _ _ h, sumV_rule _ _ _ _ _ _ _ _ (by decide)]; rfl
theorem SumAt.c4 (h : SumAt w q kd wd pol lo tn F reg) : w.cell? ⟨q, 4, none⟩ = some (.int .u32 tn) := by rw [cell_of_row _ _ _ _ _ _ h, sumV_rule _ _ _ _ _ _ _ _ (by decide)]; rfl
theorem SumAt.tab (h : SumAt w q kd wd pol lo tn F reg) (j : Nat) (hj : j < 256) : w.cell? ⟨q, 5 + j, none⟩ = some (.int .u32 (F j : Int)) := by rw [cell_of_row _ _ _ _ _ _ h, sumV_tab _ _ _ _ _ _ _ _ hj]
theorem SumAt.creg (h : SumAt w q kd wd pol lo tn F reg) : w.cell? ⟨q, 261, none⟩ = some (.int .u32 (reg : Int)) := by rw [cell_of_row _ _ _ _ _ _ h, sumV_reg]
theorem SumAt.f (h : SumAt w q kd wd pol lo tn F reg) (o : Nat) : w.frozen? ⟨q, o, none⟩ = false := by unfold SumAt at h; simp [World.frozen?, h]
theorem SumAt.set (h : SumAt w q kd wd pol lo tn F reg) (r : Nat) : SumAt (w.setCell ⟨q, 261, none⟩ (.int .u32 (r : Int))) q kd wd pol lo tn F r := by
 unfold SumAt at h ⊢
 rw [block_setCell _ _ _ _ _ _ h, sumV_set]
theorem SumAt.kept {w' : World} (h : SumAt w q kd wd pol lo tn F reg) (hb : w'.heap[q]? = w.heap[q]?) : SumAt w' q kd wd pol lo tn F reg := by
 unfold SumAt at h ⊢
 rw [hb]
 exact h
end
structure Only (q : Nat) (w w' : World) : Prop where
 os : w'.os = w.os
 tape : w'.tape = w.tape
 output : w'.output = w.output
 size : w'.heap.size = w.heap.size
 block : ∀ k, k ≠ q -> w'.heap[k]? = w.heap[k]?
theorem Only.below {q B : Nat} {w w' : World} (h : Only q w w') (hq : B <= q) : Below B w w' := ⟨h.os, h.tape, h.output, by rw [h.size]; exact Nat.le_refl _, fun k hk => h.block k (by omega)⟩
theorem Only.set (q o n : Nat) (w : World) (v : Value) : Only q w ((w.drewN n).setCell ⟨q, o, none⟩ v) := ⟨rfl, rfl, rfl, by simp [World.setCell, World.drewN], fun k hk => by rw [Below.heap_setCell _ _ _ _ hk]; rfl⟩
theorem take_snoc (s : ByteArray) (i : Nat) (h : i < s.size) : (bytesOf s).take (i + 1) = (bytesOf s).take i ++ [(s[i]'h).toNat] := by
 rw [List.take_succ_eq_append_getElem (by rw [bytesOf_length]; exact h), bytesOf_get s i h]
theorem crcL_snoc (P x : BitVec 32) (s : ByteArray) (i : Nat) (h : i < s.size) : crcL P x ((bytesOf s).take (i + 1)) = byteStep P (crcL P x ((bytesOf s).take i)) (s[i]'h).toNat := by
 rw [take_snoc s i h, crcL_append]
 rfl
theorem addHigh_spec (q : Nat) (kd wd pol tn : Int) (lo : Bool) (P x : BitVec 32) (s : ByteArray) (hs : s.size <= 200000000000000) (w : World) (h : SumAt w q kd wd pol lo tn (fun b => (byteStep P 0#32 b).toNat) x.toNat) :
  Calls Tryz.prog 166 #[.pointer (some ⟨q, 0, none⟩), .string s] w fun e w' => e = .returned (.tuple #[]) /\ SumAt w' q kd wd pol lo tn (fun b => (byteStep P 0#32 b).toNat) (crcL P x (bytesOf s)).toNat /\ Only q w w' := by
 have HS := kQ h
 have cr := h.creg
 clear h
 go_enter Tryz.func166, Tryz.ntmps166
 go_wp2
 go_loopw [4, 12] (fun u t wr => ∃ (i n : Nat) (r : BitVec 32), i <= s.size /\ wr = w.drewN n /\ r = crcL P x ((bytesOf s).take i) /\ u = .int .u32 (r.toNat : Int) /\ t = .int .i64 (i : Int)) (fun _ t _ => s.size - (intOf t).toNat)
 case atStart => exact ⟨0, 0, x, Nat.zero_le _, rfl, rfl, rfl, rfl⟩
 case round =>
  obtain ⟨i, n, r, hi, rfl, hr, rfl, rfl⟩ := hrel
  by_cases hlt : i < s.size
  ·have hx : (s[i]'hlt).toNat < 256 := UInt8.toNat_lt _
   have HR : Hid (byteStep P r (s[i]'hlt).toNat = crcL P x ((bytesOf s).take (i + 1))) := by
    show _ = _
    rw [crcL_snoc, <- hr]
   clear hr
   have hrl := lt32 r
   have ha := high_add P r (s[i]'hlt).toNat hx
   have hk : r.toNat / 16777216 ^^^ (s[i]'hlt).toNat < 256 := Nat.xor_lt_two_pow (n := 8) (by omega) hx
   have hix : bits .xor .u8 ((r.toNat : Int) / 16777216) ((s[i]'hlt).toNat : Int) = ((r.toNat / 16777216 ^^^ (s[i]'hlt).toNat : Nat) : Int) := by
    have e : (r.toNat : Int) / 16777216 = ((r.toNat / 16777216 : Nat) : Int) := by simp
    rw [e, u8_xor_nat _ _ (by omega) hx]
   have ct := HS.out.tab _ hk
   generalize r.toNat / 16777216 ^^^ (s[i]'hlt).toNat = k at *
   go_wp2_with fail
   go_quiet (fail)
   go_wp2
   go_roundw
   case rel => exact ⟨i + 1, n + nq, _, by omega, rfl, HR.out, rfl, by go_num⟩
   case measure => simp [intOf]; omega
  ·have hie : i = s.size := by omega
   have HR : Hid (r = crcL P x (bytesOf s)) := by
    show _ = _
    rw [hr, hie, List.take_of_length_le (by rw [bytesOf_length]; exact Nat.le_refl _)]
   have cw := HS.out.creg
   have fw := HS.out.f 261
   clear hr hie
   go_wp2
   go_end0
   refine ⟨rfl, ?_, Only.set _ _ _ _ _⟩
   rw [<- HR.out]
   exact (HS.out.kept (w' := w.drewN n) rfl).set _
theorem add_high (q : Nat) (kd wd pol tn : Int) (P x : BitVec 32) (s : ByteArray) (hs : s.size <= 200000000000000) (w : World) (h : SumAt w q kd wd pol false tn (fun b => (byteStep P 0#32 b).toNat) x.toNat) :
  Calls Tryz.prog 123 #[.pointer (some ⟨q, 0, none⟩), .string s] w fun e w' => e = .returned (.tuple #[]) /\ SumAt w' q kd wd pol false tn (fun b => (byteStep P 0#32 b).toNat) (crcL P x (bytesOf s)).toNat /\ Only q w w' := by
 have HS := kQ h
 have c3 := h.c3
 clear h
 go_enter Tryz.func123, Tryz.ntmps123
 go_wp2_with fail
 refine (addHigh_spec q kd wd pol tn false P x s hs w HS.out).mono ?_
 rintro e w1 ⟨rfl, h1, h2⟩
 have H1 := kQ h1
 have H2 := kQ h2
 clear h1 h2
 go_wp2
 go_end0
 exact ⟨rfl, H1.out, H2.out⟩
theorem value_spec (q : Nat) (kd wd pol tn : Int) (lo : Bool) (F : Nat -> Nat) (reg v : Nat) (h0 : 0 <= wd) (h32 : wd <= 32) (hv : bits .xor .u32 (reg : Int) tn / 2 ^ (32 - wd).toNat = (v : Int)) (hl : v < 4294967296) (w : World) (h : SumAt w q kd wd pol lo tn F reg) :
  Calls Tryz.prog 124 #[.pointer (some ⟨q, 0, none⟩)] w fun e w' => e = .returned (.int .i64 (v : Int)) /\ ∃ n, w' = w.drewN n := by
 have c1 := h.c1
 have c4 := h.c4
 have cr := h.creg
 clear h
 go_enter Tryz.func124, Tryz.ntmps124
 go_wp2_with fail
 go_quiet (fail)
 go_wp2
 go_ret
 exact ⟨rfl, _, rfl⟩
end S3
end Go.Proofs.YtfpfabmbipmipaaGreatDoor
