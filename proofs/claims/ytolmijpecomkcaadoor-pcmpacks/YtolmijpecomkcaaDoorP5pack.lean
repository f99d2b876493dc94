/- Own text: the walk of the document's Pack, its beginning. -/
import Derived.Test.YtolmijpecomkcaaDoorP5same
import Derived.Test.YtolmijpecomkcaaDoorP5packs
import Derived.Test.YtolmijpecomkcaaDoorRefbytes
import Derived.Lib.AppendStr
import Derived.Deep.MidRow
namespace Go.Proofs.YtolmijpecomkcaaDoor
open Go.RowKit
set_option linter.unusedSimpArgs false
set_option linter.unusedVariables false

/-- On the way through Pack: the boxes, the bytes so far. -/
structure Pk (w0 : World) (p : Pcm) (ao : Option Addr) (cap : Nat) (big uns : Bool) (v : Value) (l : List Nat) (w : World) : Prop where
  box : w.heap[w0.heap.size]? = some (.cells (pcmC p ao cap) 24 (0, 0))
  lay : w.heap[w0.heap.size + 1]? = some (.cells #[.bool big, .bool uns] 26 (0, 0))
  own : w.ownsRow (w0.heap.size + 2) 5 1 v l.length (l.map fun (b : Nat) => Value.int .u8 (b : Int))
  size : w0.heap.size + 2 ≤ w.heap.size
  below : Below w0.heap.size w0 w
theorem grown_of {w w' : World} (h : Below w.heap.size w w') (row : Option Nat) : w.grownBy w' row := ⟨h.os, h.tape, h.output, h.size, fun k hk _ => h.block k hk⟩
theorem owns_next {w w' : World} {base : Nat} {e : TypeId} {size : Nat} {v : Value} {n : Nat} {xs : List Value} (h : w.ownsRow base e size v n xs) (hB : Below w.heap.size w w') : w'.ownsRow base e size v n xs :=
  h.kept (row := none) (grown_of hB none) (by cases hv : v.ownBlock <;> simp)
section
variable {w0 w w' : World} {p : Pcm} {ao : Option Addr} {cap : Nat} {big uns : Bool} {v v' : Value} {l l' : List Nat}
theorem Pk.next (h : Pk w0 p ao cap big uns v l w) (hB : Below w.heap.size w w') : Pk w0 p ao cap big uns v l w' :=
  ⟨by rw [hB.block _ (lt_of_block h.box)]; exact h.box, by rw [hB.block _ (lt_of_block h.lay)]; exact h.lay, owns_next h.own hB, Nat.le_trans h.size hB.size, h.below.trans (hB.mono h.below.size)⟩
theorem Pk.app (h : Pk w0 p ao cap big uns v l w) (hg : w.grownBy w' v.ownBlock) (ho : w'.ownsRow (w0.heap.size + 2) 5 1 v' l'.length (l'.map fun (b : Nat) => Value.int .u8 (b : Int))) : Pk w0 p ao cap big uns v' l' w' := by
  have hne : ∀ k, k < w0.heap.size + 2 → some k ≠ v.ownBlock := fun k hk e => by
    have := (h.own.lt k e.symm).1
    omega
  exact ⟨by rw [hg.block _ (lt_of_block h.box) (hne _ (by omega))]; exact h.box, by rw [hg.block _ (lt_of_block h.lay) (hne _ (by omega))]; exact h.lay, ho, Nat.le_trans h.size hg.size,
    h.below.trans ⟨hg.os, hg.tape, hg.output, hg.size, fun k hk => hg.block k (Nat.lt_of_lt_of_le hk (Nat.le_trans (by omega) h.size)) (hne k (by omega))⟩⟩
theorem Pk.c1 (h : Pk w0 p ao cap big uns v l w) : w.cell? ⟨w0.heap.size, 1, none⟩ = some (.int .i64 p.ch) := by rw [cell_of_row _ _ _ _ _ _ h.box]; rfl
theorem Pk.c2 (h : Pk w0 p ao cap big uns v l w) : w.cell? ⟨w0.heap.size, 2, none⟩ = some (.int .i64 p.wd) := by rw [cell_of_row _ _ _ _ _ _ h.box]; rfl
theorem Pk.c0 (h : Pk w0 p ao cap big uns v l w) : w.cell? ⟨w0.heap.size, 0, none⟩ = some (.int .i64 p.rate) := by rw [cell_of_row _ _ _ _ _ _ h.box]; rfl
theorem Pk.c3 (h : Pk w0 p ao cap big uns v l w) : w.cell? ⟨w0.heap.size, 3, none⟩ = some (.slice ao p.pl.length cap) := by rw [cell_of_row _ _ _ _ _ _ h.box]; rfl
theorem Pk.l0 (h : Pk w0 p ao cap big uns v l w) : w.cell? ⟨w0.heap.size + 1, 0, none⟩ = some (.bool big) := by rw [cell_of_row _ _ _ _ _ _ h.lay]; rfl
theorem Pk.l1 (h : Pk w0 p ao cap big uns v l w) : w.cell? ⟨w0.heap.size + 1, 1, none⟩ = some (.bool uns) := by rw [cell_of_row _ _ _ _ _ _ h.lay]; rfl
end
theorem Pk.new (w : World) (p : Pcm) (ao : Option Addr) (cap : Nat) (big uns : Bool) : Pk w p ao cap big uns (.slice none 0 0) [] ((w.alloc (.cells (pcmC p ao cap) 24)).alloc (.cells #[.bool big, .bool uns] 26)) := by
  refine ⟨?_, ?_, World.ownsRow_nil _ _ _ _, by simp, ((Below.refl w.heap.size w).alloc (Nat.le_refl _) _).alloc (by simp) _⟩
  · rw [Below.heap_alloc _ _ _ (by simp)]
    exact heap_alloc_new _ _
  · have h := heap_alloc_new (w.alloc (.cells (pcmC p ao cap) 24)) (.cells #[.bool big, .bool uns] 26)
    have e : (w.alloc (.cells (pcmC p ao cap) 24)).heap.size = w.heap.size + 1 := by simp
    rw [e] at h
    exact h

theorem strCells_textOf (l : List Nat) (h : ∀ b ∈ l, b < 256) : Lib.strCells (textOf l) = l.map fun (b : Nat) => Value.int .u8 (b : Int) := by
  unfold Lib.strCells textOf
  rw [List.map_map]
  apply List.map_congr_left
  intro b hb
  have := h b hb
  simp [UInt8.toNat_ofNat', Nat.mod_eq_of_lt this]

theorem conv_own {w : World} {base : Nat} {v : Value} {l : List Nat} (h : w.ownsRow base 5 1 v l.length (l.map fun (b : Nat) => Value.int .u8 (b : Int))) :
    (convert 41 9 v).run Tryd.prog w = .ok (.string (textOf l)) w := by
  have hc := h
  rcases h.2 with ⟨rfl, h0⟩ | ⟨g, c, cur, rfl, _, _, _, _, _, _⟩
  · rw [List.eq_nil_of_length_eq_zero h0]
    exact run_convert_bytes_nil w 41 5 Tryd.underlying41 Tryd.underlying5 0 0 9 Tryd.underlying9
  · rw [textOf_eq]
    refine run_convert_bytes_arg w 41 5 Tryd.underlying41 Tryd.underlying5 g 0 l.length c _ (by simp) (fun i hi => ?_) 9 Tryd.underlying9
    have := hc.cells (g := g) rfl i (.int .u8 (l[i] : Int)) (by rw [List.getElem?_map, List.getElem?_eq_getElem hi]; rfl)
    rw [Addr.add_mid] at this
    rw [this]
    simp [List.getD, hi]

/-- Pack's answer. -/
def packN (p : Pcm) (big uns : Bool) : ByteArray := if checkN p = 0 then textOf (packL p big uns (lenP p)) else ⟨#[]⟩

set_option maxRecDepth 20000 in
set_option maxHeartbeats 3200000 in
theorem rpack_no (p : Pcm) (ao : Option Addr) (cap : Nat) (big uns : Bool) (w : World) (hr : RowsAt w ao p.pl) (hc : ¬ checkN p = 0) :
    Calls Tryd.prog 5 #[pcmV p ao cap, .agg #[.bool big, .bool uns]] w fun e w' => e = .returned (.tuple #[.string ⟨#[]⟩, .int .i64 (checkN p)]) ∧ Below w.heap.size w w' := by
  have HP : Hid (Pk w p ao cap big uns (.slice none 0 0) [] ((w.alloc (.cells (pcmC p ao cap) 24)).alloc (.cells #[.bool big, .bool uns] 26))) := Pk.new w p ao cap big uns
  have HR : Hid (RowsAt w ao p.pl) := hr
  clear hr
  go_enter Tryd.func5, Tryd.ntmps5
  go_wp2_with fail
  generalize hwa : World.alloc _ _ = wa
  have HA : Hid (Pk w p ao cap big uns (.slice none 0 0) [] wa) := by
    rw [← hwa]
    exact HP.out
  clear hwa HP
  refine (rcheck_spec p ao cap wa (HR.out.below HA.out.below)).mono ?_
  rintro e w4 ⟨rfl, hB⟩
  have HB : Hid (Below w.heap.size w w4) := HA.out.below.trans (hB.mono HA.out.below.size)
  clear hB
  go_wp2
  go_ret2
  exact ⟨rfl, HB.out⟩

end Go.Proofs.YtolmijpecomkcaaDoor
