/- Own text: a sum's cells: the rule's, the table's, the register. -/
import Derived.Test.YtdmgkgomldjnhaaDoorRuleOf
namespace Go.Proofs.YtdmgkgomldjnhaaDoor
open Go.RowKit
set_option linter.unusedSimpArgs false
set_option linter.unusedVariables false

/-- A sum's cells. -/
def sumV (kd wd pol : Int) (lo : Bool) (tn : Int) (F : Nat → Nat) (reg : Nat) : Array Value := ruleV kd wd pol lo tn ++ tabV F 256 ++ #[.int .u32 (reg : Int)]

theorem sumV_size (kd wd pol : Int) (lo : Bool) (tn : Int) (F : Nat → Nat) (reg : Nat) : (sumV kd wd pol lo tn F reg).size = 262 := by
  simp [sumV, tabV_size, ruleV]

theorem sumV_rule (kd wd pol : Int) (lo : Bool) (tn : Int) (F : Nat → Nat) (reg j : Nat) (h : j < 5) : (sumV kd wd pol lo tn F reg)[j]? = (ruleV kd wd pol lo tn)[j]? := by
  unfold sumV
  rw [Array.append_assoc, Array.getElem?_append_left (by simpa using h)]

theorem sumV_tab (kd wd pol : Int) (lo : Bool) (tn : Int) (F : Nat → Nat) (reg j : Nat) (h : j < 256) : (sumV kd wd pol lo tn F reg)[5 + j]? = some (.int .u32 (F j : Int)) := by
  unfold sumV
  rw [Array.append_assoc, Array.getElem?_append_right (by simp), Array.getElem?_append_left (by simp [tabV_size]; omega)]
  have e : 5 + j - (ruleV kd wd pol lo tn).size = j := by simp
  rw [e, tabV_get F 256 j h, if_pos h]

theorem sumV_reg (kd wd pol : Int) (lo : Bool) (tn : Int) (F : Nat → Nat) (reg : Nat) : (sumV kd wd pol lo tn F reg)[261]? = some (.int .u32 (reg : Int)) := by
  unfold sumV
  rw [Array.getElem?_append_right (by simp [tabV_size])]
  simp [tabV_size]

theorem sumV_set (kd wd pol : Int) (lo : Bool) (tn : Int) (F : Nat → Nat) (reg r : Nat) : (sumV kd wd pol lo tn F reg).setIfInBounds 261 (.int .u32 (r : Int)) = sumV kd wd pol lo tn F r := by
  apply Array.ext_getElem?
  intro j
  rw [Array.getElem?_setIfInBounds, sumV_size]
  by_cases hj : 261 = j
  · subst hj
    rw [if_pos rfl, if_pos (by decide), sumV_reg]
  · rw [if_neg hj]
    by_cases h5 : j < 5
    · rw [sumV_rule _ _ _ _ _ _ _ _ h5, sumV_rule _ _ _ _ _ _ _ _ h5]
    · by_cases h6 : j < 261
      · obtain ⟨k, rfl⟩ : ∃ k, j = 5 + k := ⟨j - 5, by omega⟩
        rw [sumV_tab _ _ _ _ _ _ _ _ (by omega), sumV_tab _ _ _ _ _ _ _ _ (by omega)]
      · rw [Array.getElem?_eq_none (by rw [sumV_size]; omega), Array.getElem?_eq_none (by rw [sumV_size]; omega)]

theorem zero49 : (Tryd.prog.info? 49).map (fun i => (i.zero, i.size)) = some (some (.agg (#[.int .i64 0, .int .i64 0, .int .u32 0, .bool false, .int .u32 0] ++ Array.replicate 257 (.int .u32 0))), 262) := by kernel_rfl

theorem fold_row (o : Nat) : ∀ (l : List Value) (n : Nat) (base : Array Value), o + n + l.length ≤ base.size → ∀ j,
    ((l.zipIdx n).foldl (fun cs (x : Value × Nat) => cs.setIfInBounds (o + x.snd) x.fst) base)[j]? = (if o + n ≤ j ∧ j < o + n + l.length then l[j - (o + n)]? else base[j]?)
  | [], n, base, h, j => by
    rw [if_neg (by simp)]
    rfl
  | v :: t, n, base, h, j => by
    rw [List.length_cons] at h
    have ih := fold_row o t (n + 1) (base.setIfInBounds (o + n) v) (by rw [Array.size_setIfInBounds]; omega) j
    rw [List.zipIdx_cons, List.foldl_cons, ih, List.length_cons, Array.getElem?_setIfInBounds]
    by_cases hj : o + n = j
    · subst hj
      rw [if_neg (by omega), if_pos rfl, if_pos (by omega), if_pos (by omega)]
      simp
    · rw [if_neg hj]
      by_cases hin : o + (n + 1) ≤ j ∧ j < o + (n + 1) + t.length
      · rw [if_pos hin, if_pos (by omega)]
        have e : j - (o + n) = j - (o + (n + 1)) + 1 := by omega
        rw [e, List.getElem?_cons_succ]
      · rw [if_neg hin, if_neg (by omega)]

/-- What 'build' makes of a rule, a table and a register. -/
theorem built_sum (kd wd pol : Int) (lo : Bool) (tn : Int) (F : Nat → Nat) (r : Nat) (hr : tn = (r : Int)) (Z : Array Value) (hZ : Z.size = 262) :
    (Array.foldl (fun cs (x : Value × Nat) => cs.setIfInBounds (5 + x.snd) x.fst) (((((Z.setIfInBounds 0 (.int .i64 kd)).setIfInBounds 1 (.int .i64 wd)).setIfInBounds 2 (.int .u32 pol)).setIfInBounds 3 (.bool lo)).setIfInBounds 4 (.int .u32 tn)) (tabV F 256).zipIdx 0 256).setIfInBounds 261 (.int .u32 tn)
      = sumV kd wd pol lo tn F r ∧
    (Array.foldl (fun cs (x : Value × Nat) => cs.setIfInBounds (5 + x.snd) x.fst) (((((Z.setIfInBounds 0 (.int .i64 kd)).setIfInBounds 1 (.int .i64 wd)).setIfInBounds 2 (.int .u32 pol)).setIfInBounds 3 (.bool lo)).setIfInBounds 4 (.int .u32 tn)) (tabV F 256).zipIdx 0 256).size = 262 := by
  generalize hB : (((((Z.setIfInBounds 0 (.int .i64 kd)).setIfInBounds 1 (.int .i64 wd)).setIfInBounds 2 (.int .u32 pol)).setIfInBounds 3 (.bool lo)).setIfInBounds 4 (.int .u32 tn)) = B
  have hBs : B.size = 262 := by
    rw [← hB]
    simp [hZ]
  have hfold : Array.foldl (fun cs (x : Value × Nat) => cs.setIfInBounds (5 + x.snd) x.fst) B (tabV F 256).zipIdx 0 256 = ((tabV F 256).toList.zipIdx 0).foldl (fun cs (x : Value × Nat) => cs.setIfInBounds (5 + x.snd) x.fst) B := by
    have e : (tabV F 256).zipIdx.size = 256 := by rw [Array.size_zipIdx, tabV_size]
    have h1 := Array.foldl_toList (xs := (tabV F 256).zipIdx) (fun cs (x : Value × Nat) => cs.setIfInBounds (5 + x.snd) x.fst) (init := B)
    rw [e, Array.toList_zipIdx] at h1
    exact h1.symm
  rw [hfold]
  have hget := fold_row 5 (tabV F 256).toList 0 B (by rw [hBs, Array.length_toList, tabV_size]; decide)
  generalize hM : ((tabV F 256).toList.zipIdx 0).foldl (fun cs (x : Value × Nat) => cs.setIfInBounds (5 + x.snd) x.fst) B = M at hget ⊢
  rw [Array.length_toList, tabV_size] at hget
  have hMs : M.size = 262 := by
    apply Nat.le_antisymm
    · apply Nat.le_of_not_lt
      intro hlt
      have := hget 262
      rw [if_neg (by omega), Array.getElem?_eq_none (xs := B) (by omega)] at this
      have h2 : M[262]? = some M[262] := Array.getElem?_eq_getElem hlt
      rw [h2] at this
      cases this
    · apply Nat.le_of_not_lt
      intro hlt
      have := hget 261
      rw [if_neg (by omega), Array.getElem?_eq_none (by omega)] at this
      have h2 : B[261]? = some (B[261]'(by omega)) := Array.getElem?_eq_getElem (by omega)
      rw [h2] at this
      cases this
  refine ⟨?_, hMs⟩
  apply Array.ext_getElem?
  intro j
  rw [Array.getElem?_setIfInBounds, hMs]
  by_cases hj : 261 = j
  · subst hj
    rw [if_pos rfl, if_pos (by decide), sumV_reg, hr]
  · rw [if_neg hj, hget]
    by_cases h5 : j < 5
    · rw [if_neg (by omega), sumV_rule _ _ _ _ _ _ _ _ h5, ← hB]
      rcases j with _ | _ | _ | _ | _ | j
      · simp [Array.getElem?_setIfInBounds, hZ, ruleV]
      · simp [Array.getElem?_setIfInBounds, hZ, ruleV]
      · simp [Array.getElem?_setIfInBounds, hZ, ruleV]
      · simp [Array.getElem?_setIfInBounds, hZ, ruleV]
      · simp [Array.getElem?_setIfInBounds, hZ, ruleV]
      · omega
    · by_cases h6 : j < 261
      · obtain ⟨k, rfl⟩ : ∃ k, j = 5 + k := ⟨j - 5, by omega⟩
        rw [if_pos (by omega), sumV_tab _ _ _ _ _ _ _ _ (by omega)]
        have e : 5 + k - (5 + 0) = k := by omega
        rw [e, Array.getElem?_toList, tabV_get F 256 k (by omega), if_pos (by omega)]
      · rw [if_neg (by omega), Array.getElem?_eq_none (by omega), Array.getElem?_eq_none (by rw [sumV_size]; omega)]

end Go.Proofs.YtdmgkgomldjnhaaDoor
