/- Own text: what a COMM says, and the walk of the document's comm, its first ends. -/
import Derived.Test.YtaepgjheknkojaaGreatG4x
import Derived.Test.YtaepgjheknkojaaGreatG6x
import Derived.Test.YtaepgjheknkojaaGreatR6chunk
namespace Go.Proofs.YtaepgjheknkojaaGreat
open Go.RowKit
set_option linter.unusedSimpArgs false
set_option linter.unusedVariables false

/-- What a COMM says. -/
structure Com where
  rate : Int
  ch : Int
  wd : Int
  smp : Int
  lit : Bool
abbrev comC (x : Com) : Array Value := #[.int .i64 x.rate, .int .i64 x.ch, .int .i64 x.wd, .slice none 0 0, .int .i64 x.smp, .bool x.lit]
abbrev zeroQ : Array Value := #[.int .i64 0, .int .i64 0, .int .i64 0, .slice none 0 0, .int .i64 0, .bool false]
def noCom : Com := ⟨0, 0, 0, 0, false⟩
def noneT : ByteArray := ⟨#[78, 79, 78, 69]⟩
def sowtT : ByteArray := ⟨#[115, 111, 119, 116]⟩
theorem none_list : noneT.toList = [78, 79, 78, 69] := by rw [ByteArray.toList_eq]; rfl
theorem sowt_list : sowtT.toList = [115, 111, 119, 116] := by rw [ByteArray.toList_eq]; rfl
def beI (s : ByteArray) (a b : Nat) : Int := fromBe (bytesOf (s.extract a b))
/-- How long a COMM with a text is. -/
def comN (s : ByteArray) : Nat := 23 + (bytesOf s).getD 22 0 + (23 + (bytesOf s).getD 22 0) % 2
def comLit (s : ByteArray) (c : Bool) : Bool := c && (s.extract 18 22).toList == sowtT.toList
def comX (s : ByteArray) (c : Bool) : Com := ⟨((frV (bytesOf (s.extract 8 18))).1 : Int), beI s 0 2, beI s 6 8, beI s 2 6, comLit s c⟩
def comE (s : ByteArray) (c : Bool) : Int :=
  if (!c && (s.size : Int) != 18) || (c && decide ((s.size : Int) < 23)) then 2 else
  if c && (s.size : Int) != (comN s : Int) then 2 else
  if c && ((s.extract 18 22).toList != noneT.toList && (s.extract 18 22).toList != sowtT.toList) then 3 else
  if ((frV (bytesOf (s.extract 8 18))).2 : Int) != 0 then ((frV (bytesOf (s.extract 8 18))).2 : Int) else
  if beI s 0 2 == 0 then 2 else
  if decide (8 < beI s 0 2) || (beI s 6 8 % 8 != 0 || (decide (beI s 6 8 < 8) || decide (32 < beI s 6 8))) then 3 else
  if decide (1048576 < beI s 2 6) then 5 else 0
def comR (s : ByteArray) (c : Bool) : Com := if comE s c = 0 then comX s c else noCom
theorem infoQ : (Tryz.prog.info? 51).map (·.size) = some 6 := by kernel_rfl
/-- The answer's box with zeros. -/
structure Jq (w0 w : World) : Prop where
  res : w.heap[w0.heap.size]? = some (.cells zeroQ 51 (0, 0))
  below : Below w0.heap.size w0 w
theorem Jq.new (w : World) : Jq w (w.alloc (.cells zeroQ 51)) := ⟨heap_alloc_new _ _, (Below.refl _ _).alloc (Nat.le_refl _) _⟩
theorem Jq.next {w0 w w1 : World} (h : Jq w0 w) (hB : Below w.heap.size w w1) : Jq w0 w1 := ⟨by rw [hB.block _ (lt_of_block h.res)]; exact h.res, h.below.trans (hB.mono h.below.size)⟩
theorem Jq.c {w0 w : World} (h : Jq w0 w) (j : Nat) (v : Value) (hv : zeroQ[j]? = some v) : w.cell? ⟨w0.heap.size, j, none⟩ = some v := by rw [cell_of_row _ _ _ _ _ _ h.res]; exact hv
theorem Jq.z {w0 w : World} (h : Jq w0 w) (j : Nat) : w.frozen? ⟨w0.heap.size, j, none⟩ = false := by
  have := h.res
  simp [World.frozen?, this]
/-- And the box of what is told. -/
structure Jx (w0 : World) (Q : Nat) (x : Com) (w : World) : Prop where
  jq : Jq w0 w
  bx : w.heap[Q]? = some (.cells (comC x) 51 (0, 0))
  lo : w0.heap.size < Q
theorem Jx.next {w0 w w1 : World} {Q : Nat} {x : Com} (h : Jx w0 Q x w) (hB : Below w.heap.size w w1) : Jx w0 Q x w1 := ⟨h.jq.next hB, by rw [hB.block _ (lt_of_block h.bx)]; exact h.bx, h.lo⟩
theorem Jx.c {w0 w : World} {Q : Nat} {x : Com} (h : Jx w0 Q x w) (j : Nat) (v : Value) (hv : (comC x)[j]? = some v) : w.cell? ⟨Q, j, none⟩ = some v := by rw [cell_of_row _ _ _ _ _ _ h.bx]; exact hv
theorem Jx.z {w0 w : World} {Q : Nat} {x : Com} (h : Jx w0 Q x w) (j : Nat) : w.frozen? ⟨Q, j, none⟩ = false := by
  have := h.bx
  simp [World.frozen?, this]
theorem Jx.new {w0 w : World} (h : Jq w0 w) (x : Com) : Jx w0 w.heap.size x (w.alloc (.cells (comC x) 51)) := ⟨h.next ((Below.refl _ _).alloc (Nat.le_refl _) _), heap_alloc_new _ _, lt_of_block h.res⟩
theorem Jx.set {w0 w : World} {Q : Nat} {x y : Com} (h : Jx w0 Q x w) (j : Nat) (v : Value) (e : (comC x).setIfInBounds j v = comC y) : Jx w0 Q y (w.setCell ⟨Q, j, none⟩ v) := by
  refine ⟨⟨?_, h.jq.below.setCell (Nat.le_of_lt h.lo) _⟩, ?_, h.lo⟩
  · rw [Below.heap_setCell _ _ _ _ (by show w0.heap.size ≠ Q; have := h.lo; omega)]
    exact h.jq.res
  · rw [block_set _ _ _ _ _ _ h.bx, e]

set_option maxRecDepth 20000 in
set_option maxHeartbeats 3200000 in
theorem r7comm_len0 (s : ByteArray) (w : World) (hs : s.size ≤ 140737488351232) (h : ((s.size : Int) != 18) = true) :
    Calls Tryz.prog 20 #[.string s, .bool false] w fun e w' => e = .returned (.tuple #[.agg (comC (comR s false)), .int .i64 (comE s false)]) ∧ Below w.heap.size w w' := by
  have HE : Hid (comE s false = 2) := by
    show _ = _
    unfold comE
    rw [h]
    rfl
  have HR : Hid (comR s false = noCom) := by
    show _ = _
    unfold comR
    rw [HE.out]
    rfl
  have HJ0 : Hid (Jq w (w.alloc (.cells zeroQ 51))) := Jq.new w
  go_enter Tryz.func20, Tryz.ntmps20
  go_wp2_with fail
  refine bodyPost_ret (v := .tuple #[.agg zeroQ, .int .i64 (2)]) ?_ rfl ⟨by rw [HR.out, HE.out]; rfl, HJ0.out.below⟩
  rw [results_two rfl]
  have hld := run_loadVar_row (P := Tryz.prog) (w.alloc (.cells zeroQ 51)) w.heap.size 51 51 zeroQ (0, 0) _ HJ0.out.res Tryz.underlying51 rfl infoQ
  simp [asAddr, Result.andThen, hld]

set_option maxRecDepth 20000 in
set_option maxHeartbeats 3200000 in
theorem r7comm_len1 (s : ByteArray) (w : World) (hs : s.size ≤ 140737488351232) (h : decide ((s.size : Int) < 23) = true) :
    Calls Tryz.prog 20 #[.string s, .bool true] w fun e w' => e = .returned (.tuple #[.agg (comC (comR s true)), .int .i64 (comE s true)]) ∧ Below w.heap.size w w' := by
  have HE : Hid (comE s true = 2) := by
    show _ = _
    unfold comE
    rw [h]
    rfl
  have HR : Hid (comR s true = noCom) := by
    show _ = _
    unfold comR
    rw [HE.out]
    rfl
  have h2 : (s.size : Int) < 23 := of_decide_eq_true h
  have HJ0 : Hid (Jq w (w.alloc (.cells zeroQ 51))) := Jq.new w
  go_enter Tryz.func20, Tryz.ntmps20
  go_wp2_with fail
  refine bodyPost_ret (v := .tuple #[.agg zeroQ, .int .i64 (2)]) ?_ rfl ⟨by rw [HR.out, HE.out]; rfl, HJ0.out.below⟩
  rw [results_two rfl]
  have hld := run_loadVar_row (P := Tryz.prog) (w.alloc (.cells zeroQ 51)) w.heap.size 51 51 zeroQ (0, 0) _ HJ0.out.res Tryz.underlying51 rfl infoQ
  simp [asAddr, Result.andThen, hld]

set_option maxRecDepth 20000 in
set_option maxHeartbeats 3200000 in
theorem r7comm_len2 (s : ByteArray) (w : World) (hs : s.size ≤ 140737488351232) (h : 23 ≤ s.size) (h2 : ((s.size : Int) != (comN s : Int)) = true) :
    Calls Tryz.prog 20 #[.string s, .bool true] w fun e w' => e = .returned (.tuple #[.agg (comC (comR s true)), .int .i64 (comE s true)]) ∧ Below w.heap.size w w' := by
  have HE : Hid (comE s true = 2) := by
    show _ = _
    unfold comE
    rw [h2, decide_eq_false (by omega)]
    rfl
  have HR : Hid (comR s true = noCom) := by
    show _ = _
    unfold comR
    rw [HE.out]
    rfl
  have hlt : 22 < s.size := by omega
  have hbb : (s[22]'hlt).toNat < 256 := (s[22]'hlt).toNat_lt
  have hcn : comN s = 23 + (s[22]'hlt).toNat + (23 + (s[22]'hlt).toNat) % 2 := by unfold comN; rw [byte_getD s 22 hlt]
  have hrem : Int.tmod (23 + ((s[22]'hlt).toNat : Int)) 2 = (((23 + (s[22]'hlt).toNat) % 2 : Nat) : Int) := by
    rw [Int.tmod_eq_emod_of_nonneg (by omega)]
    omega
  have h3 : ((s.size : Int) != 23 + ((s[22]'hlt).toNat : Int) + (((23 + (s[22]'hlt).toNat) % 2 : Nat) : Int)) = true := by
    rw [hcn] at h2
    rw [← h2]
    congr 1
  have HJ0 : Hid (Jq w (w.alloc (.cells zeroQ 51))) := Jq.new w
  go_enter Tryz.func20, Tryz.ntmps20
  go_wp2_with fail
  refine bodyPost_ret (v := .tuple #[.agg zeroQ, .int .i64 (2)]) ?_ rfl ⟨by rw [HR.out, HE.out]; rfl, HJ0.out.below⟩
  rw [results_two rfl]
  have hld := run_loadVar_row (P := Tryz.prog) (w.alloc (.cells zeroQ 51)) w.heap.size 51 51 zeroQ (0, 0) _ HJ0.out.res Tryz.underlying51 rfl infoQ
  simp [asAddr, Result.andThen, hld]

end Go.Proofs.YtaepgjheknkojaaGreat
