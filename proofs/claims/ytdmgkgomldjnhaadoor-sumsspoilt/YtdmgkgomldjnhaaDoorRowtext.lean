/- Own text: rows of bytes as texts, made rows. -/
import Derived.Test.YtdmgkgomldjnhaaDoorLaid
namespace Go.Proofs.YtdmgkgomldjnhaaDoor
open Go.RowKit
set_option linter.unusedSimpArgs false
set_option linter.unusedVariables false

theorem info5 : (Tryd.prog.info? 5).map (fun i => (i.zero, i.size, i.bytes)) = some (some (.int .u8 0), 1, 1) := by kernel_rfl

theorem made_run (n : Nat) (h : n ≤ 281474976710656) (w : World) :
    (Instr.makeSlice 33 (.int .i64 (n : Int)) (.int .i64 (n : Int))).run Tryd.prog w = .ok (.slice (some ⟨w.heap.size, 0, none⟩) n n) (w.alloc (.cells (madeCells #[.int .u8 0] n) 5)) :=
  run_make_row' 33 5 (.int .u8 0) 1 Tryd.underlying33 info5 rfl .i64 .i64 n (by omega) (by omega) w

theorem textOf_eq (bs : List Nat) : textOf bs = strOfNums (bs.map fun (b : Nat) => (b : Int)) := by
  unfold textOf strOfNums
  rw [List.map_map]
  congr 2

/-- A row of bytes, as a text. -/
theorem conv_row {w : World} {g cap : Nat} {f : Nat → Nat} {n : Nat} (h : w.rowIs g 5 n (fun i => .int .u8 (f i : Int))) :
    (convert 33 9 (.slice (some ⟨g, 0, none⟩) n cap)).run Tryd.prog w = .ok (.string (textOf ((List.range n).map f))) w := by
  rw [textOf_eq]
  refine run_convert_bytes_arg w 33 5 Tryd.underlying33 Tryd.underlying5 g 0 n cap _ (by simp) (fun i hi => ?_) 9 Tryd.underlying9
  rw [Nat.zero_add, h.cell hi]
  simp [List.getD, hi]

/-- A block of bytes, as a text. -/
theorem conv_block {w : World} {g cap : Nat} (bs : List Nat) (t : TypeId) (fz : Nat × Nat) (h : w.heap[g]? = some (.cells ((bs.map fun (b : Nat) => Value.int .u8 (b : Int)).toArray) t fz)) :
    (convert 33 9 (.slice (some ⟨g, 0, none⟩) bs.length cap)).run Tryd.prog w = .ok (.string (textOf bs)) w := by
  rw [textOf_eq]
  refine run_convert_bytes_arg w 33 5 Tryd.underlying33 Tryd.underlying5 g 0 bs.length cap _ (by simp) (fun i hi => ?_) 9 Tryd.underlying9
  rw [Nat.zero_add, cell_of_row _ _ _ _ _ _ h]
  simp [List.getD, hi]

theorem conv1 (a : Nat) (w : World) : (convert 33 9 (.slice (some ⟨w.heap.size, 0, none⟩) 1 1)).run Tryd.prog (w.alloc (.cells #[.int .u8 (a : Int)] 5)) = .ok (.string (textOf [a])) (w.alloc (.cells #[.int .u8 (a : Int)] 5)) :=
  conv_block [a] 5 (0, 0) (heap_alloc_last w _)
theorem conv2 (a b : Nat) (w : World) : (convert 33 9 (.slice (some ⟨w.heap.size, 0, none⟩) 2 2)).run Tryd.prog (w.alloc (.cells #[.int .u8 (a : Int), .int .u8 (b : Int)] 5)) = .ok (.string (textOf [a, b])) (w.alloc (.cells #[.int .u8 (a : Int), .int .u8 (b : Int)] 5)) :=
  conv_block [a, b] 5 (0, 0) (heap_alloc_last w _)
theorem conv4 (a b c d : Nat) (w : World) : (convert 33 9 (.slice (some ⟨w.heap.size, 0, none⟩) 4 4)).run Tryd.prog (w.alloc (.cells #[.int .u8 (a : Int), .int .u8 (b : Int), .int .u8 (c : Int), .int .u8 (d : Int)] 5)) = .ok (.string (textOf [a, b, c, d])) (w.alloc (.cells #[.int .u8 (a : Int), .int .u8 (b : Int), .int .u8 (c : Int), .int .u8 (d : Int)] 5)) :=
  conv_block [a, b, c, d] 5 (0, 0) (heap_alloc_last w _)

theorem conv2' (a b : Nat) (w : World) (x : Obj) : (convert 33 9 (.slice (some ⟨w.heap.size + 1, 0, none⟩) 2 2)).run Tryd.prog ((w.alloc x).alloc (.cells #[.int .u8 (a : Int), .int .u8 (b : Int)] 5)) = .ok (.string (textOf [a, b])) ((w.alloc x).alloc (.cells #[.int .u8 (a : Int), .int .u8 (b : Int)] 5)) := by
  have h := conv2 a b (w.alloc x)
  have e : (w.alloc x).heap.size = w.heap.size + 1 := by simp
  rwa [e] at h
theorem conv4' (a b c d : Nat) (w : World) (x y : Obj) : (convert 33 9 (.slice (some ⟨w.heap.size + 1 + 1, 0, none⟩) 4 4)).run Tryd.prog (((w.alloc x).alloc y).alloc (.cells #[.int .u8 (a : Int), .int .u8 (b : Int), .int .u8 (c : Int), .int .u8 (d : Int)] 5)) = .ok (.string (textOf [a, b, c, d])) (((w.alloc x).alloc y).alloc (.cells #[.int .u8 (a : Int), .int .u8 (b : Int), .int .u8 (c : Int), .int .u8 (d : Int)] 5)) := by
  have h := conv4 a b c d ((w.alloc x).alloc y)
  have e : ((w.alloc x).alloc y).heap.size = w.heap.size + 1 + 1 := by simp
  rwa [e] at h

/-- A text with its sum behind it. -/
theorem nought_8 (s : ByteArray) : c8 (s ++ textOf [c8 s]) = 0 := by
  unfold c8
  have hl := BitVec.isLt (crcL p8 0#8 (bytesOf s))
  rw [bytesOf_append, bytesOf_textOf _ (by simp; omega), crcL_append]
  have := nought8 p8 (crcL p8 0#8 (bytesOf s))
  rw [Nat.mod_eq_of_lt (by omega)] at this
  rw [this]
  rfl
theorem nought_16 (s : ByteArray) : c16 (s ++ textOf [c16 s / 256, c16 s % 256]) = 0 := by
  unfold c16
  have hl := BitVec.isLt (crcL p16 0#16 (bytesOf s))
  rw [bytesOf_append, bytesOf_textOf _ (by simp; omega), crcL_append]
  have := nought16 p16 (crcL p16 0#16 (bytesOf s))
  rw [Nat.mod_eq_of_lt (by omega : (crcL p16 0#16 (bytesOf s)).toNat / 256 < 256)] at this
  rw [this]
  rfl
theorem nought_32 (s : ByteArray) : c32 (s ++ textOf [c32 s / 16777216, c32 s / 65536 % 256, c32 s / 256 % 256, c32 s % 256]) = 0 := by
  unfold c32
  have hl := BitVec.isLt (crcL p32 0#32 (bytesOf s))
  rw [bytesOf_append, bytesOf_textOf _ (by simp; omega), crcL_append]
  have := nought32 p32 (crcL p32 0#32 (bytesOf s))
  rw [Nat.mod_eq_of_lt (by omega : (crcL p32 0#32 (bytesOf s)).toNat / 16777216 < 256)] at this
  rw [this]
  rfl

end Go.Proofs.YtdmgkgomldjnhaaDoor
