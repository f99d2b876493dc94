/- Own text: the walk of the program's 'Add': t stands behind what was added. -/
import Derived.Test.YtolmijpecomkcaaDoorDsum
import Derived.Deep.RegionLaw
import Derived.Deep.RegionHeld
import Derived.Laws.CopyRow
namespace Go.Proofs.YtolmijpecomkcaaDoor.Dg
open Go.RowKit
set_option linter.unusedSimpArgs false
set_option linter.unusedVariables false

/-- A block into which c bytes of a text were copied from place r on. -/
def copied (f : Nat → Nat) (t : ByteArray) (r c : Nat) : Nat → Nat := fun j => if r ≤ j ∧ j < r + c then (bytesOf t).getD (j - r) 0 else f j

theorem getD_lt (t : ByteArray) (j : Nat) : (bytesOf t).getD j 0 < 256 := by
  rw [List.getD_eq_getElem?_getD]
  cases h : (bytesOf t)[j]? with
  | none => simp
  | some x => exact bytesOf_lt t x (List.mem_of_getElem? h)
theorem copied_lt (f : Nat → Nat) (hf : ∀ j, f j < 256) (t : ByteArray) (r c j : Nat) : copied f t r c j < 256 := by
  unfold copied
  split
  · exact getD_lt t _
  · exact hf j

theorem take_getD (x : List Nat) (c j : Nat) (h : j < c) : (x.take c).getD j 0 = x.getD j 0 := by
  rw [List.getD_eq_getElem?_getD, List.getD_eq_getElem?_getD, List.getElem?_take, if_pos h]
theorem app_left (a b : List Nat) (j : Nat) (h : j < a.length) : (a ++ b).getD j 0 = a.getD j 0 := by
  rw [List.getD_eq_getElem?_getD, List.getD_eq_getElem?_getD, List.getElem?_append_left h]
theorem app_right (a b : List Nat) (j : Nat) (h : a.length ≤ j) : (a ++ b).getD j 0 = b.getD (j - a.length) 0 := by
  rw [List.getD_eq_getElem?_getD, List.getD_eq_getElem?_getD, List.getElem?_append_right h]

/-- What is kept, behind a piece that fills no block. -/
theorem keep_state (l : List Nat) (f : Nat → Nat) (hf : ∀ j, j < l.length % 64 → f j = (left l).getD j 0) (t : ByteArray) (h : l.length % 64 + t.size < 64) :
    soFar (l ++ (bytesOf t).take t.size) = soFar l ∧ ∀ j, j < (l ++ (bytesOf t).take t.size).length % 64 → copied f t (l.length % 64) t.size j = (left (l ++ (bytesOf t).take t.size)).getD j 0 := by
  have hl := left_length l
  have hx : ((bytesOf t).take t.size).length = t.size := by rw [List.length_take, bytesOf_length]; omega
  obtain ⟨h1, h2⟩ := keep_piece l ((bytesOf t).take t.size) (by rw [hl, hx]; exact h)
  refine ⟨h1, fun j hj => ?_⟩
  rw [List.length_append, hx] at hj
  rw [h2]
  unfold copied
  by_cases hj2 : l.length % 64 ≤ j
  · rw [if_pos ⟨hj2, by omega⟩, app_right _ _ _ (by rw [hl]; exact hj2), hl, take_getD _ _ _ (by omega)]
  · rw [if_neg (by omega), app_left _ _ _ (by rw [hl]; omega), hf j (by omega)]

/-- What is kept, behind a piece that fills the block. -/
theorem full_state (l : List Nat) (f : Nat → Nat) (hf : ∀ j, j < l.length % 64 → f j = (left l).getD j 0) (t : ByteArray) (h : 64 ≤ l.length % 64 + t.size) :
    soFar (l ++ (bytesOf t).take (64 - l.length % 64)) = mblock (soFar l) (blockL (copied f t (l.length % 64) (64 - l.length % 64))) ∧ (l ++ (bytesOf t).take (64 - l.length % 64)).length % 64 = 0 := by
  have hl := left_length l
  have hx : ((bytesOf t).take (64 - l.length % 64)).length = 64 - l.length % 64 := by rw [List.length_take, bytesOf_length]; omega
  obtain ⟨h1, h2⟩ := full_piece l ((bytesOf t).take (64 - l.length % 64)) (by rw [hl, hx]; omega)
  have he : left l ++ (bytesOf t).take (64 - l.length % 64) = blockL (copied f t (l.length % 64) (64 - l.length % 64)) := by
    apply List.ext_getElem
    · rw [List.length_append, hl, hx, blockL_length]
      omega
    · intro j hj1 hj2
      rw [blockL_length] at hj2
      have e1 : (left l ++ (bytesOf t).take (64 - l.length % 64))[j]'hj1 = (left l ++ (bytesOf t).take (64 - l.length % 64)).getD j 0 := by rw [List.getD_eq_getElem?_getD, List.getElem?_eq_getElem hj1]; rfl
      have e2 : (blockL (copied f t (l.length % 64) (64 - l.length % 64)))[j]'(by rw [blockL_length]; exact hj2) = copied f t (l.length % 64) (64 - l.length % 64) j := by simp [blockL]
      rw [e1, e2]
      unfold copied
      by_cases hj3 : l.length % 64 ≤ j
      · rw [if_pos ⟨hj3, by omega⟩, app_right _ _ _ (by rw [hl]; exact hj3), hl, take_getD _ _ _ (by omega)]
      · rw [if_neg (by omega), app_left _ _ _ (by rw [hl]; omega), hf j (by omega)]
  exact ⟨by rw [h1, he], by rw [List.length_append, hx]; omega⟩

theorem size_take (t : ByteArray) (c : Nat) : ((t.data.toList.map fun x => Value.int .u8 (x.toNat : Int)).take c).length = min c t.size := by
  rw [List.length_take, List.length_map, Array.length_toList]
  rfl

theorem splice_get (L X : List Value) (o : Nat) (h : o + X.length ≤ L.length) (j : Nat) : (L.take o ++ X ++ L.drop (o + X.length))[j]? = if o ≤ j ∧ j < o + X.length then X[j - o]? else L[j]? := by
  have ho : (L.take o).length = o := by rw [List.length_take]; omega
  by_cases h1 : j < o
  · rw [if_neg (by omega), List.append_assoc, List.getElem?_append_left (by rw [ho]; exact h1), List.getElem?_take, if_pos h1]
  · by_cases h2 : j < o + X.length
    · rw [if_pos ⟨by omega, h2⟩, List.append_assoc, List.getElem?_append_right (by rw [ho]; omega), ho, List.getElem?_append_left (by omega)]
    · rw [if_neg (by omega), List.getElem?_append_right (by rw [List.length_append, ho]; omega), List.length_append, ho, List.getElem?_drop]
      have e : o + X.length + (j - (o + X.length)) = j := by omega
      rw [e]

theorem cells_take (t : ByteArray) (c j : Nat) (hj : j < c) (hc : c ≤ t.size) : ((t.data.toList.map fun x => Value.int .u8 (x.toNat : Int)).take c)[j]? = some (.int .u8 (((bytesOf t).getD j 0 : Nat) : Int)) := by
  have hj2 : j < t.data.toList.length := by
    rw [Array.length_toList]
    exact Nat.lt_of_lt_of_le hj hc
  rw [List.getElem?_take, if_pos hj, List.getElem?_map]
  unfold bytesOf
  rw [List.getD_eq_getElem?_getD, List.getElem?_map, List.getElem?_eq_getElem hj2]
  rfl

theorem copied_sum (q : Reg4) (f : Nat → Nat) (n r c : Nat) (t : ByteArray) (hr : r + c ≤ 64) (hc : c ≤ t.size) :
    ((sumV q f n).toList.take (4 + r) ++ (t.data.toList.map fun x => Value.int .u8 (x.toNat : Int)).take c ++ (sumV q f n).toList.drop (4 + r + ((t.data.toList.map fun x => Value.int .u8 (x.toNat : Int)).take c).length)).toArray = sumV q (copied f t r c) n := by
  have hx : ((t.data.toList.map fun x => Value.int .u8 (x.toNat : Int)).take c).length = c := by rw [size_take]; omega
  have hm := fun j hj => cells_take t c j hj hc
  have h69 : (sumV q f n).toList.length = 69 := by rw [Array.length_toList, sumV_size]
  have g0 : ∀ j, j < 4 → (sumV q f n).toList[j]? = (regV q)[j]? := fun j hj => by rw [Array.getElem?_toList, sumV_reg _ _ _ _ hj]
  have g1 : ∀ j, j < 64 → (sumV q f n).toList[4 + j]? = some (.int .u8 (f j : Int)) := fun j hj => by rw [Array.getElem?_toList, sumV_block _ _ _ _ hj]
  have g2 : (sumV q f n).toList[68]? = some (.int .i64 (n : Int)) := by rw [Array.getElem?_toList, sumV_len]
  generalize (t.data.toList.map fun x => Value.int .u8 (x.toNat : Int)).take c = X at *
  generalize (sumV q f n).toList = L at *
  have hs := splice_get L X (4 + r) (by omega)
  refine sumV_ext _ _ _ _ ?_ (fun j hj => ?_) (fun j hj => ?_) ?_
  · rw [List.size_toArray, List.length_append, List.length_append, List.length_take, List.length_drop, hx, h69]
    omega
  · rw [List.getElem?_toArray, hs, if_neg (by omega), g0 j hj]
  · rw [List.getElem?_toArray, hs, hx]
    unfold copied
    by_cases h1 : r ≤ j ∧ j < r + c
    · rw [if_pos h1, if_pos (by omega), show 4 + j - (4 + r) = j - r from by omega, hm _ (by omega)]
    · rw [if_neg h1, if_neg (by omega), g1 j hj]
  · rw [List.getElem?_toArray, hs, hx, if_neg (by omega), g2]

/-- 'copy' of a text into a sum's block, from place r on. -/
theorem run_copy_sum (w : World) (p : Nat) (q : Reg4) (f : Nat → Nat) (n r c : Nat) (t : ByteArray) (ty : TypeId) (h : SumAt w p q f n) (hr : r < 64) (hc : c = min t.size (64 - r)) :
    (Builtin.copy_ #[41, 9] ty #[.slice (some ⟨p, 4 + r, none⟩) (64 - r) (64 - r), .string t]).run Tryd.prog w = .ok (.int .i64 (c : Int)) (w.setRow p (sumV q (copied f t r c) n)) := by
  have hmin : Nat.min t.size (64 - r) = c := hc.symm
  have hx : ((t.data.toList.map fun x => Value.int .u8 (x.toNat : Int)).take c).length = c := by rw [size_take]; omega
  have hst := run_storeCells_at Tryd.prog p (4 + r) 87 ((t.data.toList.map fun x => Value.int .u8 (x.toNat : Int)).take c) 0 (sumV q f n) w h (by rw [hx, sumV_size]; omega) (by
    intro v hv
    obtain ⟨x, _, rfl⟩ := List.mem_map.1 (List.mem_of_mem_take hv)
    rfl)
  rw [Nat.add_zero, copied_sum q f n r c t (by omega) (by omega)] at hst
  simp [Builtin.copy_, run_underlying Tryd.underlying41, Builtin.lenOf, Builtin.firstCells, size5, hmin]
  rw [hst]
  rfl

/-- .. as one step of a region that draws. -/
theorem step_copy_sum {ops : Array Oper} {o : Oper} {a : Act} {w : World} {K : Act → World → Prop} {Q : Exit → Act → World → Prop} {E : Prop}
    (hg : o.guard = none) (d x : Operand) (hop : o.op = Op.call { callee := Callee.builtin Builtin.copy, args := #[d, x], argTypes := #[41, 9] })
    (p : Nat) (q : Reg4) (f : Nat → Nat) (n r c : Nat) (t : ByteArray) (h : SumAt w p q f n) (hr : r < 64) (hc : c = min t.size (64 - r))
    (hd : a.eval d = .slice (some ⟨p, 4 + r, none⟩) (64 - r) (64 - r)) (hx : a.eval x = .string t)
    (hK : ∀ w', Hid (w' = w.setRow p (sumV q (copied f t r c) n)) → K (a.put o.dst (.int .i64 (c : Int))) w') :
    if Region.wanted o (yielded ops a.tmps) = true then Oper.wp Tryd.prog o a w K Q else E := by
  have hw : Region.wanted o (yielded ops a.tmps) = true := by simp [Region.wanted, hg]
  rw [if_pos hw]
  have hrun := run_copy_sum w p q f n r c t o.type h hr hc
  unfold Oper.wp
  simp [execOp, hop, resolve, invoke, builtin, hd, hx, hrun, Result.andThen]
  exact hK _ (show _ = _ from rfl)

end Go.Proofs.YtolmijpecomkcaaDoor.Dg
