/- Own text: a sum in memory; the walks of 'New' and 'Len', of 'Add', 'Value' and 'Len' of a sum that is none. -/
import Derived.Test.YtolmijpecomkcaaDoorDending
namespace Go.Proofs.YtolmijpecomkcaaDoor.Dg
open Go.RowKit
set_option linter.unusedSimpArgs false
set_option linter.unusedVariables false

/-- A sum's cells: the four numbers, a block, how many bytes were added. -/
def sumV (q : Reg4) (f : Nat → Nat) (n : Nat) : Array Value := regV q ++ blockV f ++ #[.int .i64 (n : Int)]
theorem sumV_size (q : Reg4) (f : Nat → Nat) (n : Nat) : (sumV q f n).size = 69 := by simp [sumV, blockV_size, regV]
theorem sumV_reg (q : Reg4) (f : Nat → Nat) (n j : Nat) (h : j < 4) : (sumV q f n)[j]? = (regV q)[j]? := by
  unfold sumV
  rw [Array.append_assoc, Array.getElem?_append_left (by simpa using h)]
theorem sumV_block (q : Reg4) (f : Nat → Nat) (n j : Nat) (h : j < 64) : (sumV q f n)[4 + j]? = some (.int .u8 (f j : Int)) := by
  unfold sumV
  rw [Array.append_assoc, Array.getElem?_append_right (by simp), Array.getElem?_append_left (by simp [blockV_size]; omega)]
  have e : 4 + j - (regV q).size = j := by simp
  rw [e, blockV_get f j h]
theorem sumV_len (q : Reg4) (f : Nat → Nat) (n : Nat) : (sumV q f n)[68]? = some (.int .i64 (n : Int)) := by
  unfold sumV
  rw [Array.getElem?_append_right (by simp [blockV_size])]
  simp [blockV_size]
theorem sumV_ext (q : Reg4) (f : Nat → Nat) (n : Nat) (C : Array Value) (hs : C.size = 69) (h0 : ∀ j, j < 4 → C[j]? = (regV q)[j]?) (h1 : ∀ j, j < 64 → C[4 + j]? = some (.int .u8 (f j : Int))) (h2 : C[68]? = some (.int .i64 (n : Int))) : C = sumV q f n := by
  apply Array.ext_getElem?
  intro j
  by_cases h4 : j < 4
  · rw [h0 j h4, sumV_reg _ _ _ _ h4]
  · by_cases h68 : j < 68
    · obtain ⟨k, rfl⟩ : ∃ k, j = 4 + k := ⟨j - 4, by omega⟩
      rw [h1 k (by omega), sumV_block _ _ _ _ (by omega)]
    · by_cases h : j = 68
      · subst h
        rw [h2, sumV_len]
      · rw [Array.getElem?_eq_none (by omega), Array.getElem?_eq_none (by rw [sumV_size]; omega)]

/-- A sum in memory. -/
def SumAt (w : World) (p : Nat) (q : Reg4) (f : Nat → Nat) (n : Nat) : Prop := w.heap[p]? = some (.cells (sumV q f n) 87 (0, 0))
section
variable {w : World} {p : Nat} {q : Reg4} {f : Nat → Nat} {n : Nat}
theorem SumAt.c0 (h : SumAt w p q f n) : w.cell? ⟨p, 0, none⟩ = some (.int .u32 (q.a.toNat : Int)) := by rw [cell_of_row _ _ _ _ _ _ h, sumV_reg _ _ _ _ (by decide)]; rfl
theorem SumAt.c1 (h : SumAt w p q f n) : w.cell? ⟨p, 1, none⟩ = some (.int .u32 (q.b.toNat : Int)) := by rw [cell_of_row _ _ _ _ _ _ h, sumV_reg _ _ _ _ (by decide)]; rfl
theorem SumAt.c2 (h : SumAt w p q f n) : w.cell? ⟨p, 2, none⟩ = some (.int .u32 (q.c.toNat : Int)) := by rw [cell_of_row _ _ _ _ _ _ h, sumV_reg _ _ _ _ (by decide)]; rfl
theorem SumAt.c3 (h : SumAt w p q f n) : w.cell? ⟨p, 3, none⟩ = some (.int .u32 (q.d.toNat : Int)) := by rw [cell_of_row _ _ _ _ _ _ h, sumV_reg _ _ _ _ (by decide)]; rfl
theorem SumAt.cb (h : SumAt w p q f n) (j : Nat) (hj : j < 64) : w.cell? ⟨p, 4 + j, none⟩ = some (.int .u8 (f j : Int)) := by rw [cell_of_row _ _ _ _ _ _ h, sumV_block _ _ _ _ hj]
theorem SumAt.cn (h : SumAt w p q f n) : w.cell? ⟨p, 68, none⟩ = some (.int .i64 (n : Int)) := by rw [cell_of_row _ _ _ _ _ _ h, sumV_len]
theorem SumAt.fz (h : SumAt w p q f n) (o : Nat) : w.frozen? ⟨p, o, none⟩ = false := frozen_of h o
theorem SumAt.lt (h : SumAt w p q f n) : p < w.heap.size := lt_of_block h
theorem SumAt.kept {w' : World} (h : SumAt w p q f n) (hb : w'.heap[p]? = w.heap[p]?) : SumAt w' p q f n := by
  unfold SumAt at h ⊢
  rw [hb]
  exact h
theorem SumAt.two (h : SumAt w p q f n) (hT : TabsAt w) : p ≠ 1 ∧ p ≠ 2 := by
  obtain ⟨t0, z0, h0⟩ := hT.sines
  obtain ⟨t1, z1, h1⟩ := hT.turns
  unfold SumAt at h
  constructor
  · intro e
    rw [e, h0] at h
    have := congrArg (fun o => match o with | some (Obj.cells c _ _) => c.size | _ => 0) h
    simp [sumV_size, kL] at this
  · intro e
    rw [e, h1] at h
    have := congrArg (fun o => match o with | some (Obj.cells c _ _) => c.size | _ => 0) h
    simp [sumV_size, rL] at this
end

/-- The sum at block p holds the bytes l; its memory lies from block B on. -/
def St (B : Nat) (w : World) (p : Nat) (l : List Nat) : Prop :=
  B ≤ p ∧ ∃ f : Nat → Nat, (∀ j, f j < 256) ∧ (∀ j, j < l.length % 64 → f j = (left l).getD j 0) ∧ SumAt w p (soFar l) f l.length

theorem St.keep (w w' : World) (B p : Nat) (l : List Nat) (h : St B w p l) (hB : Below w.heap.size w w') : St B w' p l := by
  obtain ⟨h1, f, h2, h3, h4⟩ := h
  exact ⟨h1, f, h2, h3, h4.kept (hB.block p h4.lt)⟩

set_option maxRecDepth 20000 in
set_option maxHeartbeats 1600000 in
theorem val_none (w : World) : Calls Tryd.prog 41 #[.pointer none] w fun e w' => e = .returned (.string ⟨#[]⟩) ∧ w' = w := by
  go_enter Tryd.func41, Tryd.ntmps41
  go_wp2
  go_ret
  exact ⟨rfl, rfl⟩

set_option maxRecDepth 20000 in
set_option maxHeartbeats 1600000 in
theorem add_none (w : World) (s : ByteArray) : Calls Tryd.prog 40 #[.pointer none, .string s] w fun e w' => e = .returned (.tuple #[]) ∧ w' = w := by
  go_enter Tryd.func40, Tryd.ntmps40
  go_wp2
  refine bodyPost_ret (results_none ?_ _ _ _) ?_ ⟨rfl, rfl⟩
  · rfl
  · rfl

def zeroA : Array Value := #[.int .u32 0, .int .u32 0, .int .u32 0, .int .u32 0] ++ Array.replicate 64 (.int .u8 0) ++ #[.int .i64 0]
theorem info43 : (Tryd.prog.info? 87).map (fun i => (i.zero, i.size)) = some (some (.agg zeroA), 69) := by kernel_rfl
theorem zero_sum : (((zeroA.setIfInBounds 0 (.int .u32 1732584193)).setIfInBounds 1 (.int .u32 4023233417)).setIfInBounds 2 (.int .u32 2562383102)).setIfInBounds 3 (.int .u32 271733878) = sumV (soFar []) (fun _ => 0) 0 := by kernel_rfl

set_option maxRecDepth 20000 in
set_option maxHeartbeats 1600000 in
theorem new_spec (w : World) : Calls Tryd.prog 39 #[] w fun e w' => ∃ q, e = .returned (.pointer (some ⟨q, 0, none⟩)) ∧ St w.heap.size w' q [] ∧ Below w.heap.size w w' := by
  have hz := (zero_of_info info43).1
  have hZs : zeroA.size = 69 := by decide
  go_enter Tryd.func39, Tryd.ntmps39
  go_wp2
  go_ret
  refine ⟨_, rfl, ⟨Nat.le_refl _, fun _ => 0, fun _ => Nat.zero_lt_succ _, fun j hj => absurd hj (Nat.not_lt_zero _), ?_⟩, (Below.refl _ _).alloc (Nat.le_refl _) _⟩
  show (w.alloc _).heap[w.heap.size]? = _
  rw [heap_alloc_new]
  exact congrArg (fun c => some (Obj.cells c 87 (0, 0))) zero_sum

end Go.Proofs.YtolmijpecomkcaaDoor.Dg
