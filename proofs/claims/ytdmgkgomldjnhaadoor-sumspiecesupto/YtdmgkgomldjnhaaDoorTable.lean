/- Own text: the walk of a rule's method 'table': 256 words, of which only those of one bit are reckoned bit by bit. -/
import Derived.Test.YtdmgkgomldjnhaaDoorMoves
import Derived.Deep.WholeRow
import Derived.Laws.ResultCell
import Derived.Deep.Cut
namespace Go.Proofs.YtdmgkgomldjnhaaDoor
open Go.RowKit
set_option linter.unusedSimpArgs false
set_option linter.unusedVariables false

theorem info46 : (Tryd.prog.info? 46).map (fun i => (i.zero, i.size)) = some (some (.agg (Array.replicate 256 (.int .u32 0))), 256) := by kernel_rfl

theorem block_setCell (w : World) (p i : Nat) (cs : Array Value) (t : TypeId) (u : Value) (h : w.heap[p]? = some (.cells cs t (0, 0))) :
    (w.setCell ⟨p, i, none⟩ u).heap[p]? = some (.cells (cs.setIfInBounds i u) t (0, 0)) := by
  simp only [World.setCell, Array.getElem?_modify, h]
  simp

/-- A table of 256 words of which the first k are laid. -/
def tabV (F : Nat → Nat) (k : Nat) : Array Value := ((List.range 256).map fun j => Value.int .u32 (((if j < k then F j else 0) : Nat) : Int)).toArray

theorem tabV_size (F : Nat → Nat) (k : Nat) : (tabV F k).size = 256 := by simp [tabV]
theorem tabV_get (F : Nat → Nat) (k j : Nat) (h : j < 256) : (tabV F k)[j]? = some (.int .u32 (((if j < k then F j else 0) : Nat) : Int)) := by simp [tabV, h]
theorem tabV_zero (F : Nat → Nat) : tabV F 0 = Array.replicate 256 (.int .u32 0) := by
  apply Array.ext_getElem?
  intro j
  by_cases h : j < 256
  · rw [tabV_get F 0 j h]
    simp [h]
  · rw [Array.getElem?_eq_none (by rw [tabV_size]; omega), Array.getElem?_eq_none (by simp; omega)]
theorem tabV_set (F : Nat → Nat) (k : Nat) (h : k < 256) : (tabV F k).setIfInBounds k (.int .u32 (F k : Int)) = tabV F (k + 1) := by
  apply Array.ext_getElem?
  intro j
  rw [Array.getElem?_setIfInBounds, tabV_size]
  by_cases hj : j < 256
  · by_cases hk : k = j
    · subst hk
      rw [if_pos rfl, if_pos h, tabV_get F _ _ hj]
      simp
    · rw [if_neg hk, tabV_get F _ _ hj, tabV_get F _ _ hj]
      have : (j < k) = (j < k + 1) := propext ⟨fun h => by omega, fun h => by omega⟩
      simp only [this]
  · rw [Array.getElem?_eq_none (by rw [tabV_size]; omega), Array.getElem?_eq_none (by rw [tabV_size]; omega), if_neg (by omega)]

/-- Of a number that is no power of two: without its lowest bit, and that bit. -/
theorem low_bit : ∀ i : Fin 256, i.val &&& (i.val - 1) = 0 ∨ ((i.val &&& (i.val - 1)) < i.val ∧ (i.val ^^^ (i.val &&& (i.val - 1))) < i.val ∧ (i.val &&& (i.val - 1)) ^^^ (i.val ^^^ (i.val &&& (i.val - 1))) = i.val) := by decide +kernel

theorem and_less (i : Nat) (h : i < 256) : bits .and .i64 (i : Int) ((i : Int) - 1) = ((i &&& (i - 1) : Nat) : Int) := by
  by_cases h0 : i = 0
  · subst h0
    decide
  · have e : (i : Int) - 1 = ((i - 1 : Nat) : Int) := by omega
    rw [e, i64_and_nat _ _ (by omega) (by omega)]

section
variable {P : Program} {ops : Array Oper} {rest : List Oper} {Q : Exit → Act → World → Prop} {a : Act} {w : World}

/-- A whole row is loaded. -/
theorem wpList_load_row (t : TypeId) {dst : Option Tmp} {x : Operand} {ty : TypeId} {pos : String} {after : Array Edge} (b : Nat) (c : Array Value) (t' : TypeId) (fz : Nat × Nat) (d : TypeDesc) (hu : P.underlying t = some d) (hd : (match d with | .struct _ | .array _ _ => true | _ => false) = true)
    (hi : (P.info? t).map (·.size) = some c.size) (hx : a.eval x = .pointer (some ⟨b, 0, none⟩)) (hb : w.heap[b]? = some (.cells c t' fz)) (h : wpList P ops Q rest (a.put dst (.agg c)) w) :
    wpList P ops Q (⟨dst, .load t x, ty, pos, after, none⟩ :: rest) a w := by
  refine wpList_plain rfl fun K hK => ?_
  unfold Oper.wp
  simp only [execOp, hx, Instr.loadAt, Instr.sureAddr, Sem.run_bind, Sem.run_pure, Result.andThen_ok, run_loadVar_row w b t' t c fz d hb hu hd hi]
  exact hK _ _ h
end

theorem lt_of {w : World} {b : Nat} {o : Obj} (h : w.heap[b]? = some o) : b < w.heap.size := lt_of_block h

theorem at_new3 (w : World) (a b c : Obj) : (((w.alloc a).alloc b).alloc c).heap[w.heap.size + 2]? = some c := by
  have h := heap_alloc_last ((w.alloc a).alloc b) c
  have e : ((w.alloc a).alloc b).heap.size = w.heap.size + 2 := by simp
  rwa [e] at h
theorem at_new2 (w : World) (a b c : Obj) : (((w.alloc a).alloc b).alloc c).heap[w.heap.size + 1]? = some b := by
  rw [Below.heap_alloc _ _ _ (by simp)]
  have h := heap_alloc_last (w.alloc a) b
  have e : (w.alloc a).heap.size = w.heap.size + 1 := by simp
  rwa [e] at h
theorem at_new1 (w : World) (a b c : Obj) : (((w.alloc a).alloc b).alloc c).heap[w.heap.size]? = some a := by
  rw [Below.heap_alloc _ _ _ (by simp; omega), Below.heap_alloc _ _ _ (by simp)]
  exact heap_alloc_last w a

/-- The result that lies in a cell. -/
theorem results_cell {fn : Func} {p : Tmp} {ty : TypeId} (h : fn.results = #[.cell p ty]) (tmps : Array Value) (P : Program) (w : World) :
    (results fn tmps).run P w = ((asAddr (tmps.getD p undef)).run P w).andThen fun a w₁ => (loadVar ty a).run P w₁ := by
  simp only [results, h]
  simp [Sem.run_bind, Result.andThen]

/-- A rule's value. -/
abbrev ruleV (kd wd pol : Int) (lo : Bool) (tn : Int) : Array Value := #[.int .i64 kd, .int .i64 wd, .int .u32 pol, .bool lo, .int .u32 tn]

set_option maxRecDepth 20000 in
set_option maxHeartbeats 1600000 in
theorem table_spec (kd wd pol tn : Int) (lo : Bool) (F : Nat → Nat) (hF : ∀ j, F j < 4294967296) (hX : ∀ a b, F (a ^^^ b) = F a ^^^ F b)
    (hM : ∀ (b : Nat), b < 256 → ∀ w, Calls Tryd.prog 29 #[.agg (ruleV kd wd pol lo tn), .int .u32 (b : Int)] w fun e w' => e = .returned (.int .u32 (F b : Int)) ∧ Below w.heap.size w w') (w : World) :
    Calls Tryd.prog 26 #[.agg (ruleV kd wd pol lo tn)] w fun e w' => e = .returned (.agg (tabV F 256)) ∧ Below w.heap.size w w' := by
  have hz := (zero_of_info info46).1
  rw [← tabV_zero F] at hz
  have HI : Hid ((Tryd.prog.info? 46).map (·.size) = some 256) := (zero_of_info info46).2
  have hZs : Hid ((tabV F 0).size = 256) := tabV_size F 0
  have HM : Hid (∀ (b : Nat), b < 256 → ∀ w, Calls Tryd.prog 29 #[.agg (ruleV kd wd pol lo tn), .int .u32 (b : Int)] w fun e w' => e = .returned (.int .u32 (F b : Int)) ∧ Below w.heap.size w w') := hM
  have HX : Hid (∀ a b, F (a ^^^ b) = F a ^^^ F b) := hX
  have HF : Hid (∀ j, F j < 4294967296) := hF
  clear hM hX hF
  go_enter Tryd.func26, Tryd.ntmps26
  go_wp2_with fail
  go_loopw [6] (fun t wr => ∃ i : Nat, i ≤ 256 ∧ t = .int .i64 (i : Int) ∧ wr.heap[w.heap.size + 2]? = some (.cells (tabV F i) 46 (0, 0)) ∧ wr.heap[w.heap.size + 1]? = some (.cells (tabV F 0) 46 (0, 0)) ∧ wr.heap[w.heap.size]? = some (.cells (ruleV kd wd pol lo tn) 43 (0, 0)) ∧ Below w.heap.size w wr) (fun t _ => 256 - (intOf t).toNat)
  case atStart =>
    refine ⟨0, Nat.zero_le _, rfl, ?_, ?_, ?_, ?_⟩
    · exact at_new3 w _ _ _
    · exact at_new2 w _ _ _
    · exact at_new1 w _ _ _
    · exact (((Below.refl w.heap.size w).alloc (Nat.le_refl _) _).alloc (by simp) _).alloc (by simp; omega) _
  case round =>
    obtain ⟨i, hi, rfl, hb2, hb1, hb0, hB⟩ := hrel
    by_cases hlt : i < 256
    · have hand := and_less i hlt
      have hsz := hB.size
      have hl2 := lt_of hb2
      rcases low_bit ⟨i, hlt⟩ with h0 | ⟨h1, h2, h3⟩
      · simp only at h0
        rw [h0] at hand
        have HB2 : Hid (wr.heap[w.heap.size + 2]? = some (.cells (tabV F i) 46 (0, 0))) := hb2
        have HB1 : Hid (wr.heap[w.heap.size + 1]? = some (.cells (tabV F 0) 46 (0, 0))) := hb1
        have HB0 : Hid (wr.heap[w.heap.size]? = some (.cells (ruleV kd wd pol lo tn) 43 (0, 0))) := hb0
        have HB : Hid (Below w.heap.size w wr) := hB
        have HL2 : Hid (w.heap.size + 2 < wr.heap.size) := hl2
        have c0 : wr.cell? ⟨w.heap.size, 0, none⟩ = some (.int .i64 kd) := by rw [cell_of_row _ _ _ _ _ _ hb0]; rfl
        have c1 : wr.cell? ⟨w.heap.size, 1, none⟩ = some (.int .i64 wd) := by rw [cell_of_row _ _ _ _ _ _ hb0]; rfl
        have c2 : wr.cell? ⟨w.heap.size, 2, none⟩ = some (.int .u32 pol) := by rw [cell_of_row _ _ _ _ _ _ hb0]; rfl
        have c3 : wr.cell? ⟨w.heap.size, 3, none⟩ = some (.bool lo) := by rw [cell_of_row _ _ _ _ _ _ hb0]; rfl
        have c4 : wr.cell? ⟨w.heap.size, 4, none⟩ = some (.int .u32 tn) := by rw [cell_of_row _ _ _ _ _ _ hb0]; rfl
        clear hb2 hb1 hb0 hB h0 hl2 hsz
        go_wp2_with fail
        refine (HM.out i hlt _).mono ?_
        rintro e w1 ⟨rfl, hB1⟩
        have K2 : Hid (w1.heap[w.heap.size + 2]? = some (.cells (tabV F i) 46 (0, 0))) := by
          show _ = _
          rw [hB1.block _ HL2.out]; exact HB2.out
        have K1 : Hid (w1.heap[w.heap.size + 1]? = some (.cells (tabV F 0) 46 (0, 0))) := by
          show _ = _
          rw [hB1.block _ (by have := HL2.out; omega)]; exact HB1.out
        have K0 : Hid (w1.heap[w.heap.size]? = some (.cells (ruleV kd wd pol lo tn) 43 (0, 0))) := by
          show _ = _
          rw [hB1.block _ (by have := HL2.out; omega)]; exact HB0.out
        have KB : Hid (Below w.heap.size w w1) := HB.out.trans (hB1.mono HB.out.size)
        have ci : w1.cell? ⟨w.heap.size + 1 + 1, i, none⟩ = some (.int .u32 0) := by
          rw [cell_of_row _ _ _ _ _ _ K2.out, tabV_get F i i hlt]
          simp
        have fi : w1.frozen? ⟨w.heap.size + 1 + 1, i, none⟩ = false := by
          have := K2.out
          simp [World.frozen?, this]
        clear hB1
        go_wp2
        go_roundw
        case rel =>
          exact ⟨i + 1, by omega, by go_num, by rw [block_setCell _ _ _ _ _ _ K2.out, tabV_set F i hlt], by rw [Below.heap_setCell _ _ _ _ (by simp)]; exact K1.out,
            by rw [Below.heap_setCell _ _ _ _ (by simp; omega)]; exact K0.out, KB.out.setCell (by simp; omega) _⟩
        case measure => simp [intOf]; omega
      · simp only at h1 h2 h3
        have hr0 : ¬ ((i &&& (i - 1) : Nat) : Int) = 0 := by
          intro e
          have e' : i &&& (i - 1) = 0 := by omega
          rw [e'] at h2
          simp at h2
        have hxor : bits .xor .i64 (i : Int) ((i &&& (i - 1) : Nat) : Int) = ((i ^^^ (i &&& (i - 1)) : Nat) : Int) := i64_xor_nat _ _ (by omega) (by omega)
        generalize i &&& (i - 1) = r at *
        generalize hq : i ^^^ r = q at *
        have hfx : bits .xor .u32 (F r : Int) (F q : Int) = (F i : Int) := by
          rw [u32_xor_nat _ _ (HF.out r) (HF.out q), ← HX.out, h3]
        have cr : wr.cell? ⟨w.heap.size + 1 + 1, r, none⟩ = some (.int .u32 (F r : Int)) := by
          rw [cell_of_row _ _ _ _ _ _ hb2, tabV_get F i r (by omega), if_pos h1]
        have cq : wr.cell? ⟨w.heap.size + 1 + 1, q, none⟩ = some (.int .u32 (F q : Int)) := by
          rw [cell_of_row _ _ _ _ _ _ hb2, tabV_get F i q (by omega), if_pos h2]
        have ci : wr.cell? ⟨w.heap.size + 1 + 1, i, none⟩ = some (.int .u32 0) := by
          rw [cell_of_row _ _ _ _ _ _ hb2, tabV_get F i i hlt]
          simp
        have fi : wr.frozen? ⟨w.heap.size + 1 + 1, i, none⟩ = false := by
          simp [World.frozen?, hb2]
        have K2 : Hid (wr.heap[w.heap.size + 2]? = some (.cells (tabV F i) 46 (0, 0))) := hb2
        have K1 : Hid (wr.heap[w.heap.size + 1]? = some (.cells (tabV F 0) 46 (0, 0))) := hb1
        have K0 : Hid (wr.heap[w.heap.size]? = some (.cells (ruleV kd wd pol lo tn) 43 (0, 0))) := hb0
        have KB : Hid (Below w.heap.size w wr) := hB
        clear hb2 hb1 hb0 hB h3 hq hl2 hsz
        go_wp2_with fail
        go_region
        all_goals go_wp2
        go_roundw
        case rel =>
          refine ⟨i + 1, by omega, by go_num, ?_, ?_, ?_, (KB.out.setCell (by simp; omega) _).drew⟩
          · show (wr.setCell _ _).heap[_]? = _
            rw [block_setCell _ _ _ _ _ _ K2.out, tabV_set F i hlt]
          · show (wr.setCell _ _).heap[_]? = _
            rw [Below.heap_setCell _ _ _ _ (by simp)]
            exact K1.out
          · show (wr.setCell _ _).heap[_]? = _
            rw [Below.heap_setCell _ _ _ _ (by simp; omega)]
            exact K0.out
        case measure => simp [intOf]; omega
    · have h8 : i = 256 := by omega
      have HB2 : Hid (wr.heap[w.heap.size + 2]? = some (.cells (tabV F 256) 46 (0, 0))) := by rw [h8] at hb2; exact hb2
      have HB1 : Hid (wr.heap[w.heap.size + 1]? = some (.cells (tabV F 0) 46 (0, 0))) := hb1
      have HB : Hid (Below w.heap.size w wr) := hB
      clear hb2 hb1 hb0 hB h8
      go_upto_region 10 with fail
      go_wp2_with (first | (refine wpList_load_row 46 (w.heap.size + 2) (tabV F 256) 46 (0, 0) (.array 256 41) Tryd.underlying46 rfl (by rw [tabV_size]; exact HI.out) rfl HB2.out ?_) | (refine wpList_store_row rfl 46 (.tmp 2) (.tmp 33) rfl (w.heap.size + 1) (tabV F 256) rfl rfl 46 (tabV F 0) HB1.out (by rw [tabV_size]; exact HI.out) (by rw [tabV_size, tabV_size]) (by simp [tabV, Value.oneCell']) ?_))
      refine bodyPost_ret (v := .agg (tabV F 256)) ?_ rfl ⟨rfl, ?_⟩
      · rw [results_cell rfl]
        have hld := run_loadVar_row (P := Tryd.prog) _ (w.heap.size + 1) 46 46 (tabV F 256) (0, 0) _ (setRow_heap wr (w.heap.size + 1) _ (tabV F 256) 46 (0, 0) HB1.out) Tryd.underlying46 rfl (by rw [tabV_size]; exact HI.out)
        simp [asAddr, Result.andThen, Act.put, hld]
      · exact HB.out.trans ⟨rfl, rfl, rfl, by simp, fun k hk => setRow_other _ _ _ _ (by omega)⟩

end Go.Proofs.YtdmgkgomldjnhaaDoor
