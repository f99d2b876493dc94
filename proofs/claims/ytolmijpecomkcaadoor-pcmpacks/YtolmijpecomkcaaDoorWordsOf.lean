/- Own text: the walk of the program's 'wordsOf': a block's bytes as sixteen numbers. -/
import Derived.Test.YtolmijpecomkcaaDoorMixed
import Derived.Deep.WholeRow
import Derived.Deep.MidRow
import Derived.Deep.Cut
namespace Go.Proofs.YtolmijpecomkcaaDoor.Dg
open Go.RowKit
set_option linter.unusedSimpArgs false
set_option linter.unusedVariables false

/-- 64 bytes as an array's cells. -/
def blockV (f : Nat → Nat) : Array Value := ((List.range 64).map fun j => Value.int .u8 (f j : Int)).toArray
theorem blockV_size (f : Nat → Nat) : (blockV f).size = 64 := by simp [blockV]
theorem blockV_get (f : Nat → Nat) (j : Nat) (h : j < 64) : (blockV f)[j]? = some (.int .u8 (f j : Int)) := by simp [blockV, h]
def blockL (f : Nat → Nat) : List Nat := (List.range 64).map f
theorem blockL_length (f : Nat → Nat) : (blockL f).length = 64 := by simp [blockL]
theorem blockL_get (f : Nat → Nat) (j : Nat) (h : j < 64) : (blockL f).getD j 0 = f j := by simp [blockL, h]
theorem blockL_lt (f : Nat → Nat) (h : ∀ j, f j < 256) : ∀ b ∈ blockL f, b < 256 := by
  intro b hb
  simp only [blockL, List.mem_map] at hb
  obtain ⟨j, _, rfl⟩ := hb
  exact h j

/-- Sixteen words of which the first k are laid. -/
def partV (x : Nat → BitVec 32) (k : Nat) : Array Value := ((List.range 16).map fun g => Value.int .u32 (((if g < k then (x g).toNat else 0) : Nat) : Int)).toArray
theorem partV_size (x : Nat → BitVec 32) (k : Nat) : (partV x k).size = 16 := by simp [partV]
theorem partV_get (x : Nat → BitVec 32) (k g : Nat) (h : g < 16) : (partV x k)[g]? = some (.int .u32 (((if g < k then (x g).toNat else 0) : Nat) : Int)) := by simp [partV, h]
theorem partV_zero (x : Nat → BitVec 32) : partV x 0 = Array.replicate 16 (.int .u32 0) := by
  apply Array.ext_getElem?
  intro j
  by_cases h : j < 16
  · rw [partV_get x 0 j h]
    simp [h]
  · rw [Array.getElem?_eq_none (by rw [partV_size]; omega), Array.getElem?_eq_none (by simp; omega)]
theorem partV_all (x : Nat → BitVec 32) : partV x 16 = wordsV x := by
  apply Array.ext_getElem?
  intro j
  by_cases h : j < 16
  · rw [partV_get x 16 j h, wordsV_get x j h, if_pos h]
  · rw [Array.getElem?_eq_none (by rw [partV_size]; omega), Array.getElem?_eq_none (by rw [wordsV_size]; omega)]
theorem partV_set (x : Nat → BitVec 32) (k : Nat) (h : k < 16) : (partV x k).setIfInBounds k (.int .u32 ((x k).toNat : Int)) = partV x (k + 1) := by
  apply Array.ext_getElem?
  intro j
  rw [Array.getElem?_setIfInBounds, partV_size]
  by_cases hj : j < 16
  · by_cases hk : k = j
    · subst hk
      rw [if_pos rfl, if_pos h, partV_get x _ _ hj]
      simp
    · rw [if_neg hk, partV_get x _ _ hj, partV_get x _ _ hj]
      have : (j < k) = (j < k + 1) := propext ⟨fun h => by omega, fun h => by omega⟩
      simp only [this]
  · rw [Array.getElem?_eq_none (by rw [partV_size]; omega), Array.getElem?_eq_none (by rw [partV_size]; omega), if_neg (by omega)]

theorem info46 : (Tryd.prog.info? 90).map (fun i => (i.zero, i.size)) = some (some (.agg (Array.replicate 16 (.int .u32 0))), 16) := by kernel_rfl

theorem size5 (w : World) : (Go.sizeOf 5).run Tryd.prog w = .ok 1 w := by
  have h := Tryd.info5
  cases hq : Tryd.prog.info? 5 with
  | none => rw [hq] at h; cases h
  | some i =>
    rw [hq] at h
    simp only [Option.map_some, Option.some.injEq, Prod.mk.injEq] at h
    simp [Go.sizeOf, typeInfo, hq, h.2.1]
theorem len41 : Tryd.prog.arrayLen 85 = 64 := by kernel_rfl
theorem elem41 : Tryd.prog.elem 85 = 5 := by kernel_rfl
theorem arr41 : Tryd.prog.underlying 85 = some (.array (Tryd.prog.arrayLen 85) (Tryd.prog.elem 85)) := by rw [len41, elem41]; exact Tryd.underlying85

/-- A part of a block, as a slice. -/
theorem slice_lh (b o l h : Nat) (h1 : l ≤ h) (h2 : h ≤ 64) (hl : l < 64) (w : World) :
    (Instr.sliceAt 85 (.pointer (some ⟨b, o, none⟩)) (some (.int .i64 (l : Int))) (some (.int .i64 (h : Int))) none).run Tryd.prog w = .ok (.slice (some ⟨b, o + l, none⟩) (h - l) (64 - l)) w := by
  rw [run_sliceAt_array_lh w 85 ⟨b, o, none⟩ arr41 .i64 .i64 _ _ (by omega) (by omega) (by rw [len41]; omega), elem41, size5]
  simp only [Result.andThen_ok, slicedAt, len41, Int.toNat_natCast]
  rw [if_neg (by omega), Addr.add_mid, Nat.mul_one]
theorem slice_l (b o l : Nat) (hl : l < 64) (w : World) :
    (Instr.sliceAt 85 (.pointer (some ⟨b, o, none⟩)) (some (.int .i64 (l : Int))) none none).run Tryd.prog w = .ok (.slice (some ⟨b, o + l, none⟩) (64 - l) (64 - l)) w := by
  rw [run_sliceAt_array_l w 85 ⟨b, o, none⟩ arr41 .i64 _ (by omega) (by rw [len41]; omega), elem41, size5]
  simp only [Result.andThen_ok, slicedAt, len41, Int.toNat_natCast]
  rw [if_neg (by omega), Addr.add_mid, Nat.mul_one]
theorem slice_h (b o h : Nat) (h2 : h ≤ 64) (w : World) :
    (Instr.sliceAt 85 (.pointer (some ⟨b, o, none⟩)) none (some (.int .i64 (h : Int))) none).run Tryd.prog w = .ok (.slice (some ⟨b, o, none⟩) h 64) w := by
  rw [run_sliceAt_array_h w 85 ⟨b, o, none⟩ arr41 .i64 _ (by omega) (by rw [len41]; omega), elem41, size5]
  simp only [Result.andThen_ok, slicedAt, len41, Int.toNat_natCast]
  rw [if_neg (by omega), Addr.add_mid, Nat.zero_mul]
  rfl

/-- Four bytes of a block, as a text. -/
theorem conv_four {w : World} {g cap : Nat} {f : Nat → Nat} (h : w.heap[g]? = some (.cells (blockV f) 85 (0, 0))) (i : Nat) (hi : i < 16) :
    (convert 41 9 (.slice (some ⟨g, 4 * i, none⟩) 4 cap)).run Tryd.prog w = .ok (.string (textOf [f (4 * i), f (4 * i + 1), f (4 * i + 2), f (4 * i + 3)])) w := by
  rw [textOf_eq]
  refine run_convert_bytes_arg w 41 5 Tryd.underlying41 Tryd.underlying5 g (4 * i) 4 cap _ (by simp) (fun j hj => ?_) 9 Tryd.underlying9
  rw [cell_of_row _ _ _ _ _ _ h, blockV_get f _ (by omega)]
  rcases j with _ | _ | _ | _ | j
  · rfl
  · rfl
  · rfl
  · rfl
  · omega

theorem four_val (f : Nat → Nat) (hf : ∀ j, f j < 256) (i : Nat) (hi : i < 16) : fromBe (bytesOf (textOf [f (4 * i), f (4 * i + 1), f (4 * i + 2), f (4 * i + 3)])).reverse = ((word (blockL f) i).toNat : Int) := by
  have hl := wordN_lt (blockL f) i (blockL_lt f hf)
  have hb : ∀ b ∈ [f (4 * i), f (4 * i + 1), f (4 * i + 2), f (4 * i + 3)], b < 256 := by
    intro b hb
    simp only [List.mem_cons, List.not_mem_nil, or_false] at hb
    rcases hb with e | e | e | e <;> rw [e] <;> exact hf _
  have e : wordN (blockL f) i = val [f (4 * i + 3), f (4 * i + 2), f (4 * i + 1), f (4 * i)] := by
    unfold wordN
    rw [blockL_get f _ (by omega), blockL_get f _ (by omega), blockL_get f _ (by omega), blockL_get f _ (by omega)]
  rw [bytesOf_textOf _ hb, word, BitVec.toNat_ofNat, Nat.mod_eq_of_lt hl, e]
  rw [e] at hl
  exact fromBe_of _ (by simp) (by simpa using (by omega : val [f (4 * i + 3), f (4 * i + 2), f (4 * i + 1), f (4 * i)] < 9223372036854775808))

section
variable {P : Program} {ops : Array Oper} {rest : List Oper} {Q : Exit → Act → World → Prop} {a : Act} {w : World}

/-- A whole row is loaded. -/
theorem wpList_load_row (t : TypeId) {dst : Option Tmp} {x : Operand} {ty : TypeId} {pos : String} {after : Array Edge} (b : Nat) (c : Array Value) (t' : TypeId) (fz : Nat × Nat) (d : TypeDesc) (hu : P.underlying t = some d) (hd : (match d with | .struct _ | .array _ _ => true | _ => false) = true)
    (hi : (P.info? t).map (·.size) = some c.size) (hx : a.eval x = .pointer (some ⟨b, 0, none⟩)) (hb : w.heap[b]? = some (.cells c t' fz)) (h : wpList P ops Q rest (a.put dst (.agg c)) w) :
    wpList P ops Q (⟨dst, .load t x, ty, pos, after, none⟩ :: rest) a w := by
  refine wpList_plain rfl fun K hK => ?_
  unfold Oper.wp
  simp only [execOp, hx, Instr.loadAt, Instr.sureAddr, Sem.run_bind, Sem.run_pure, Result.andThen_ok, run_loadVar_row w b t' t c fz d hb hu hd hi]
  exact hK _ _ h
end

/-- What stays through the loop. -/
structure Wds (w0 : World) (f : Nat → Nat) (x : Nat → BitVec 32) (k : Nat) (w : World) : Prop where
  came : w.heap[w0.heap.size]? = some (.cells (blockV f) 85 (0, 0))
  res : w.heap[w0.heap.size + 1]? = some (.cells (partV x 0) 90 (0, 0))
  out : w.heap[w0.heap.size + 2]? = some (.cells (partV x k) 90 (0, 0))
  below : Below w0.heap.size w0 w

set_option maxRecDepth 20000 in
set_option maxHeartbeats 4000000 in
theorem wordsOf_spec (f : Nat → Nat) (hf : ∀ j, f j < 256) (w : World) :
    Calls Tryd.prog 55 #[.agg (blockV f)] w fun e w' => e = .returned (.agg (wordsV (word (blockL f)))) ∧ Below w.heap.size w w' := by
  have HF : Hid (∀ i, i < 16 → ∀ w, Calls Tryd.prog 62 #[.string (textOf [f (4 * i), f (4 * i + 1), f (4 * i + 2), f (4 * i + 3)])] w fun e w' => e = .returned (.int .i64 ((word (blockL f) i).toNat : Int)) ∧ w' = w) := fun i hi w => by
    have := fromLe_spec (textOf [f (4 * i), f (4 * i + 1), f (4 * i + 2), f (4 * i + 3)]) (by rw [textOf_size]; simp) w
    rwa [four_val f hf i hi] at this
  clear hf
  generalize word (blockL f) = x at *
  have hz := (zero_of_info info46).1
  rw [← partV_zero x] at hz
  have HI : Hid ((Tryd.prog.info? 90).map (·.size) = some 16) := (zero_of_info info46).2
  have hZs : Hid ((partV x 0).size = 16) := partV_size x 0
  go_enter Tryd.func55, Tryd.ntmps55
  go_wp2_with fail
  go_loopw [5] (fun t wr => ∃ i : Nat, i ≤ 16 ∧ t = .int .i64 (i : Int) ∧ Wds w f x i wr) (fun t _ => 16 - (intOf t).toNat)
  case atStart =>
    refine ⟨0, Nat.zero_le _, rfl, ?_, ?_, ?_, ?_⟩
    · show (((w.alloc _).alloc _).alloc _).heap[w.heap.size]? = _
      rw [Below.heap_alloc _ _ _ (by simp; omega), Below.heap_alloc _ _ _ (by simp)]
      exact heap_alloc_new _ _
    · show (((w.alloc (.cells (blockV f) 85)).alloc (.cells (partV x 0) 90)).alloc _).heap[w.heap.size + 1]? = _
      rw [Below.heap_alloc _ _ _ (by simp)]
      have h := heap_alloc_new (w.alloc (.cells (blockV f) 85)) (.cells (partV x 0) 90)
      have e : (w.alloc (.cells (blockV f) 85)).heap.size = w.heap.size + 1 := by simp
      rw [e] at h
      exact h
    · have h := heap_alloc_new ((w.alloc (.cells (blockV f) 85)).alloc (.cells (partV x 0) 90)) (.cells (partV x 0) 90)
      have e : ((w.alloc (.cells (blockV f) 85)).alloc (.cells (partV x 0) 90)).heap.size = w.heap.size + 2 := by simp
      rw [e] at h
      exact h
    · exact (((Below.refl w.heap.size w).alloc (Nat.le_refl _) _).alloc (by simp) _).alloc (by simp; omega) _
  case round =>
    obtain ⟨i, hi, rfl, hg⟩ := hrel
    have HW : Hid (Wds w f x i wr) := hg
    clear hg
    by_cases hlt : i < 16
    · have hcv := fun cap => conv_four (cap := cap) HW.out.came i hlt
      have kf := HF.out i hlt wr
      generalize textOf [f (4 * i), f (4 * i + 1), f (4 * i + 2), f (4 * i + 3)] = tx at *
      have hw32 := lt32' (x i)
      have hsl := slice_lh w.heap.size 0 (4 * i) (4 * i + 4) (by omega) (by omega) (by omega)
      have e1 : (i : Int) * 4 = ((4 * i : Nat) : Int) := by omega
      have e2 : ((i : Int) + 1) * 4 = ((4 * i + 4 : Nat) : Int) := by omega
      have e3 : 4 * i + 4 - 4 * i = 4 := by omega
      rw [← e1, ← e2, Nat.zero_add, e3] at hsl
      clear e1 e2 e3
      have ci : wr.cell? ⟨w.heap.size + 1 + 1, i, none⟩ = some (.int .u32 0) := by
        rw [cell_of_row _ _ _ _ _ _ HW.out.out, partV_get x i i hlt]
        simp
      have hoo := HW.out.out
      have fi : wr.frozen? ⟨w.heap.size + 1 + 1, i, none⟩ = false := by simp [World.frozen?, hoo]
      clear hoo
      go_wp2_with fail
      refine kf.mono ?_
      rintro e w2 ⟨rfl, hw2⟩
      rw [hw2]
      clear hw2 kf
      go_wp2
      go_roundw
      case rel =>
        refine ⟨i + 1, by omega, by go_num, ?_, ?_, ?_, HW.out.below.setCell (by simp; omega) _⟩
        · rw [Below.heap_setCell _ _ _ _ (by simp; omega)]
          exact HW.out.came
        · rw [Below.heap_setCell _ _ _ _ (by simp)]
          exact HW.out.res
        · rw [block_setCell _ _ _ _ _ _ HW.out.out, partV_set x i hlt]
      case measure => simp [intOf]; omega
    · have h16 : i = 16 := by omega
      have HB2 : Hid (wr.heap[w.heap.size + 2]? = some (.cells (wordsV x) 90 (0, 0))) := by
        have := HW.out.out
        rw [h16, partV_all] at this
        exact this
      have HB1 : Hid (wr.heap[w.heap.size + 1]? = some (.cells (partV x 0) 90 (0, 0))) := HW.out.res
      have HB : Hid (Below w.heap.size w wr) := HW.out.below
      clear h16 HW
      go_wp2_with (first | (refine wpList_load_row 90 (w.heap.size + 2) (wordsV x) 90 (0, 0) (.array 16 72) Tryd.underlying90 rfl (by rw [wordsV_size]; exact HI.out) rfl HB2.out ?_) | (refine wpList_store_row rfl 90 (.tmp 2) (.tmp 20) rfl (w.heap.size + 1) (wordsV x) rfl rfl 90 (partV x 0) HB1.out (by rw [wordsV_size]; exact HI.out) (by rw [wordsV_size, partV_size]) (by simp [wordsV, Value.oneCell']) ?_))
      refine bodyPost_ret (v := .agg (wordsV x)) ?_ rfl ⟨rfl, ?_⟩
      · rw [results_cell rfl]
        have hld := run_loadVar_row (P := Tryd.prog) _ (w.heap.size + 1) 90 90 (wordsV x) (0, 0) _ (setRow_heap wr (w.heap.size + 1) _ (wordsV x) 90 (0, 0) HB1.out) Tryd.underlying90 rfl (by rw [wordsV_size]; exact HI.out)
        simp [asAddr, Result.andThen, Act.put, hld]
      · exact HB.out.trans ⟨rfl, rfl, rfl, by simp, fun k hk => setRow_other _ _ _ _ (by omega)⟩

end Go.Proofs.YtolmijpecomkcaaDoor.Dg
