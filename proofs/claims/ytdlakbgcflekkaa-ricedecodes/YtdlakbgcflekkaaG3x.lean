/- Own text: a recipe whose lists grow by append. the memory of the document's Decode. the first ends of the document's Decode. a drawn region whose loads come ahead of its stores. the walk of the document's Best. -/
import Derived.Test.YtdlakbgcflekkaaR8same
import Derived.Test.YtdlakbgcflekkaaQ8all
import Derived.Deep.AppendLies
import Derived.Deep.RegionHeld3
import Derived.BigRegion
import Derived.Test.YtdlakbgcflekkaaQ8dec
import Derived.Test.YtdlakbgcflekkaaMem
namespace Go.Proofs.Ytdlakbgcflekkaa
open Go.RowKit
set_option linter.unusedSimpArgs false
set_option linter.unusedVariables false

/-- A recipe's box at k whose two lists grow; vP and vE: the lists that are being grown; b2 and b3: what the box holds. -/
structure Two (S : Nat → Prop) (k : Nat) (w0 : World) (mm oo : Int) (b2 b3 vP vE : Value) (P E : List Int) (X : World) : Prop where
  hS : ∀ i, k ≤ i → S i
  fr : Stays S w0 X
  bx : X.heap[k]? = some (.cells #[.int .i64 mm, .int .i64 oo, b2, b3] 24 (0, 0))
  oP : X.ownsRow (k + 1) 3 1 vP P.length (intsC P)
  oE : X.ownsRow (k + 1) 3 1 vE E.length (intsC E)
  ab : ∀ g, vP.ownBlock = some g → vE.ownBlock ≠ some g
theorem own_low {N : Nat} {e : TypeId} {z : Nat} {v : Value} {n : Nat} {xs : List Value} {w w' : World} (h : w.ownsRow N e z v n xs) (hb : Below w.heap.size w w') : w'.ownsRow N e z v n xs := by
  refine h.kept (row := none) ⟨hb.os, hb.tape, hb.output, hb.size, fun k hk _ => hb.block k hk⟩ ?_
  cases e : v.ownBlock with
  | none => exact .inl rfl
  | some g => exact .inr (fun h => by cases h)
section
variable {S : Nat → Prop} {k : Nat} {w0 X X' : World} {mm oo : Int} {b2 b3 vP vE : Value} {P E : List Int}
theorem Two.lt (h : Two S k w0 mm oo b2 b3 vP vE P E X) : k < X.heap.size := lt_of_block h.bx
theorem Two.low (h : Two S k w0 mm oo b2 b3 vP vE P E X) (hb : Below X.heap.size X X') : Two S k w0 mm oo b2 b3 vP vE P E X' :=
  ⟨h.hS, h.fr.trans (Stays.of_below hb S) (fun _ _ h => h), by rw [hb.block _ h.lt]; exact h.bx, own_low h.oP hb, own_low h.oE hb, h.ab⟩
theorem Two.drew (h : Two S k w0 mm oo b2 b3 vP vE P E X) : Two S k w0 mm oo b2 b3 vP vE P E X.drew := h.low ⟨rfl, rfl, rfl, Nat.le_refl _, fun _ _ => rfl⟩
theorem Two.alloc (h : Two S k w0 mm oo b2 b3 vP vE P E X) (o : Obj) : Two S k w0 mm oo b2 b3 vP vE P E (X.alloc o) := h.low ((Below.refl _ _).alloc (Nat.le_refl _) _)
theorem Two.stays (h : Two S k w0 mm oo b2 b3 vP vE P E X) {T : Nat → Prop} (hs : Stays T X X') (hT : ∀ i, T i → i < k ∧ S i) : Two S k w0 mm oo b2 b3 vP vE P E X' := by
  have kp : ∀ (v : Value) (L : List Int), X.ownsRow (k + 1) 3 1 v L.length (intsC L) → X'.ownsRow (k + 1) 3 1 v L.length (intsC L) := fun v L ho => by
    refine ⟨ho.1, ?_⟩
    rcases ho.2 with h0 | ⟨g, cap, cur, hv, hb, hg, r⟩
    · exact .inl h0
    · refine .inr ⟨g, cap, cur, hv, hb, ?_, r⟩
      rw [hs.block g (lt_of_block hg) (fun e => by have := (hT g e).1; omega)]
      exact hg
  exact ⟨h.hS, h.fr.trans hs (fun i _ ht => (hT i ht).2), by rw [hs.block k h.lt (fun e => by have := (hT k e).1; omega)]; exact h.bx, kp _ _ h.oP, kp _ _ h.oE, h.ab⟩
theorem Two.pushP (h : Two S k w0 mm oo b2 b3 vP vE P E X) {g cap : Nat} {w1 : World} {p : Int} (ho : w1.ownsRow (k + 1) 3 1 (.slice (some ⟨g, 0, none⟩) (P.length + 1) cap) (P.length + 1) (intsC P ++ [.int .i64 p])) (hg : X.grownBy w1 vP.ownBlock) (hat : vP.ownBlock = some g ∨ g = X.heap.size) :
    Two S k w0 mm oo b2 b3 (.slice (some ⟨g, 0, none⟩) (P.length + 1) cap) vE (P ++ [p]) E w1 := by
  refine ⟨h.hS, h.fr.trans (Stays.of_grown hg (fun b hb => h.hS b (by have := h.oP.lt b hb; omega))) (fun _ _ h => h), ?_, ?_, ?_, fun x hx hy => ?_⟩
  · rw [hg.block k h.lt (fun e => by have := h.oP.lt k e.symm; omega)]; exact h.bx
  · rw [List.length_append, intsC_append]; exact ho
  · refine h.oE.kept hg ?_
    cases e : vE.ownBlock with
    | none => exact .inl rfl
    | some y => exact .inr (fun e2 => h.ab y e2.symm e)
  · have e : g = x := by simpa [Value.ownBlock] using hx
    subst e
    rcases hat with h1 | h1
    · exact h.ab _ h1 hy
    · have := h.oE.lt _ hy; omega
theorem Two.pushE (h : Two S k w0 mm oo b2 b3 vP vE P E X) {g cap : Nat} {w1 : World} {p : Int} (ho : w1.ownsRow (k + 1) 3 1 (.slice (some ⟨g, 0, none⟩) (E.length + 1) cap) (E.length + 1) (intsC E ++ [.int .i64 p])) (hg : X.grownBy w1 vE.ownBlock) (hat : vE.ownBlock = some g ∨ g = X.heap.size) :
    Two S k w0 mm oo b2 b3 vP (.slice (some ⟨g, 0, none⟩) (E.length + 1) cap) P (E ++ [p]) w1 := by
  refine ⟨h.hS, h.fr.trans (Stays.of_grown hg (fun b hb => h.hS b (by have := h.oE.lt b hb; omega))) (fun _ _ h => h), ?_, ?_, ?_, fun x hx hy => ?_⟩
  · rw [hg.block k h.lt (fun e => by have := h.oE.lt k e.symm; omega)]; exact h.bx
  · refine h.oP.kept hg ?_
    cases e : vP.ownBlock with
    | none => exact .inl rfl
    | some y => exact .inr (fun e2 => h.ab y e e2.symm)
  · rw [List.length_append, intsC_append]; exact ho
  · have e : g = x := by simpa [Value.ownBlock] using hy
    subst e
    rcases hat with h1 | h1
    · exact h.ab _ hx h1
    · have := h.oP.lt _ hx; omega
theorem Two.set (h : Two S k w0 mm oo b2 b3 vP vE P E X) : Two S k w0 mm oo vP vE vP vE P E ((X.setCell ⟨k, 2, none⟩ vP).setCell ⟨k, 3, none⟩ vE) := by
  refine ⟨h.hS, (h.fr.setCell _ _ (.inl (h.hS k (Nat.le_refl _)))).setCell _ _ (.inl (h.hS k (Nat.le_refl _))), ?_, ownsRow_setCell_below (ownsRow_setCell_below h.oP (Nat.lt_succ_self k) _) (Nat.lt_succ_self k) _, ownsRow_setCell_below (ownsRow_setCell_below h.oE (Nat.lt_succ_self k) _) (Nat.lt_succ_self k) _, h.ab⟩
  rw [block_setCell _ _ _ _ _ _ (block_setCell _ _ _ _ _ _ h.bx)]
  rfl
theorem Two.cells (h : Two S k w0 mm oo b2 b3 vP vE P E X) : X.cell? ⟨k, 0, none⟩ = some (.int .i64 mm) ∧ X.cell? ⟨k, 1, none⟩ = some (.int .i64 oo) ∧ X.cell? ⟨k, 2, none⟩ = some b2 ∧ X.cell? ⟨k, 3, none⟩ = some b3 := by
  refine ⟨?_, ?_, ?_, ?_⟩ <;> (rw [cell_of_row _ _ _ _ _ _ h.bx]; rfl)
theorem Two.frozen (h : Two S k w0 mm oo b2 b3 vP vE P E X) (o : Nat) : X.frozen? ⟨k, o, none⟩ = false := by simp [World.frozen?, h.bx]
theorem Two.shape (h : Two S k w0 mm oo b2 b3 vP vE P E X) : ∃ pa pc ea ec, vP = .slice pa P.length pc ∧ vE = .slice ea E.length ec := by
  obtain ⟨pa, pc, h1, _⟩ := owns_shape h.oP
  obtain ⟨ea, ec, h2, _⟩ := owns_shape h.oE
  exact ⟨pa, pc, ea, ec, h1, h2⟩
end
theorem own_ints {N : Nat} {ao : Option Addr} {cap : Nat} {L : List Int} {w : World} (h : w.ownsRow N 3 1 (.slice ao L.length cap) L.length (intsC L)) (hl : L.length ≤ 17592186044415) (hn : ∀ n ∈ L, -9223372036854775808 ≤ n ∧ n ≤ 9223372036854775807) : IntsAt w ao L := by
  refine ⟨hl, hn, fun h0 => ?_⟩
  obtain ⟨g, c, e, _, _⟩ := h.form h0
  simp only [Value.slice.injEq, true_and] at e
  obtain ⟨rfl, rfl⟩ := e
  refine ⟨g, 0, rfl, fun j hj => ?_⟩
  rw [Nat.zero_add, h.cellAt j (by omega)]
  simp [intsC, List.getD_eq_getElem?_getD, List.getElem?_eq_getElem hj]
/-- A block that holds one number, made to be appended. -/
theorem tmp_new (X : World) (v : Value) : (X.alloc (.cells #[v] 3)).heap[X.heap.size]? = some (.cells #[v] 3 (0, 0)) := heap_alloc_new _ _
theorem tmp_next (X : World) (o : Obj) (v : Value) : ((X.alloc o).alloc (.cells #[v] 3)).heap[X.heap.size + 1]? = some (.cells #[v] 3 (0, 0)) := by
  have := heap_alloc_new (X.alloc o) (.cells #[v] 3)
  rwa [show (X.alloc o).heap.size = X.heap.size + 1 from by simp] at this
theorem tmp_old (X : World) (o : Obj) (v : Value) : ((X.alloc (.cells #[v] 3)).alloc o).heap[X.heap.size]? = some (.cells #[v] 3 (0, 0)) := heap_two _ _ _
theorem tmp_kept {X w1 : World} {B : Nat} {o : Obj} {row : Option Nat} (hg : X.grownBy w1 row) (hB : X.heap[B]? = some o) (hne : row ≠ some B) : w1.heap[B]? = some o := by
  rw [hg.block B (lt_of_block hB) (fun e => hne e.symm)]; exact hB

end Go.Proofs.Ytdlakbgcflekkaa

namespace Go.Proofs.Ytdlakbgcflekkaa
open Go.RowKit
set_option linter.unusedSimpArgs false
set_option linter.unusedVariables false

theorem Two.grown {S : Nat → Prop} {k : Nat} {w0 X : World} {mm oo : Int} {b2 b3 vP vE : Value} {P E : List Int} (h : Two S k w0 mm oo b2 b3 vP vE P E X) {w1 : World} {row : Option Nat} (hg : X.grownBy w1 row) (hr : ∀ b, row = some b → k < b) (hP : ∀ g, vP.ownBlock = some g → row ≠ some g) (hE : ∀ g, vE.ownBlock = some g → row ≠ some g) : Two S k w0 mm oo b2 b3 vP vE P E w1 := by
  refine ⟨h.hS, h.fr.trans (Stays.of_grown hg (fun b hb => h.hS b (by have := hr b hb; omega))) (fun _ _ h => h), ?_, ?_, ?_, h.ab⟩
  · rw [hg.block k h.lt (fun e => by have := hr k e.symm; omega)]; exact h.bx
  · refine h.oP.kept hg ?_
    cases e : vP.ownBlock with
    | none => exact .inl rfl
    | some y => exact .inr (fun e2 => hP y e e2.symm)
  · refine h.oE.kept hg ?_
    cases e : vE.ownBlock with
    | none => exact .inl rfl
    | some y => exact .inr (fun e2 => hE y e e2.symm)
/-- The memory of the document's Decode: the reader, the result's box, the recipe's box with its two lists, the residuals. -/
structure XD (w : World) (x : Nat) (s : ByteArray) (k : Nat) (mm oo : Int) (b2 b3 vP vE vL : Value) (P E L : List Int) (a : Nat) (X : World) : Prop where
  tw : Two (fun i => i = x ∨ w.heap.size ≤ i) k w mm oo b2 b3 vP vE P E X
  rd : Rr X x s a
  rb : X.heap[w.heap.size]? = some (.cells #[.int .i64 0, .int .i64 0, .slice none 0 0, .slice none 0 0] 24 (0, 0))
  oL : X.ownsRow (k + 1) 3 1 vL L.length (intsC L)
  dP : ∀ g, vP.ownBlock = some g → vL.ownBlock ≠ some g
  dE : ∀ g, vE.ownBlock = some g → vL.ownBlock ≠ some g
  hx : x < w.heap.size
  hk : w.heap.size < k
section
variable {w : World} {x : Nat} {s : ByteArray} {k : Nat} {mm oo : Int} {b2 b3 vP vE vL : Value} {P E L : List Int} {a : Nat} {X X' : World}
theorem XD.lt (h : XD w x s k mm oo b2 b3 vP vE vL P E L a X) : k < X.heap.size := h.tw.lt
theorem XD.oP (h : XD w x s k mm oo b2 b3 vP vE vL P E L a X) : X.ownsRow (k + 1) 3 1 vP P.length (intsC P) := h.tw.oP
theorem XD.oE (h : XD w x s k mm oo b2 b3 vP vE vL P E L a X) : X.ownsRow (k + 1) 3 1 vE E.length (intsC E) := h.tw.oE
theorem XD.cells (h : XD w x s k mm oo b2 b3 vP vE vL P E L a X) : X.cell? ⟨k, 0, none⟩ = some (.int .i64 mm) ∧ X.cell? ⟨k, 1, none⟩ = some (.int .i64 oo) ∧ X.cell? ⟨k, 2, none⟩ = some b2 ∧ X.cell? ⟨k, 3, none⟩ = some b3 := h.tw.cells
theorem XD.frozen (h : XD w x s k mm oo b2 b3 vP vE vL P E L a X) (o : Nat) : X.frozen? ⟨k, o, none⟩ = false := h.tw.frozen o
theorem XD.st (h : XD w x s k mm oo b2 b3 vP vE vL P E L a X) : Stays (only x) w X := h.tw.fr.mono (fun i hi e => by
  rcases e with e | e
  · exact e
  · omega)
theorem XD.low (h : XD w x s k mm oo b2 b3 vP vE vL P E L a X) (hb : Below X.heap.size X X') : XD w x s k mm oo b2 b3 vP vE vL P E L a X' :=
  ⟨h.tw.low hb, by unfold Rr; rw [hb.block _ h.rd.lt]; exact h.rd, by rw [hb.block _ (lt_of_block h.rb)]; exact h.rb, own_low h.oL hb, h.dP, h.dE, h.hx, h.hk⟩
theorem XD.drew (h : XD w x s k mm oo b2 b3 vP vE vL P E L a X) : XD w x s k mm oo b2 b3 vP vE vL P E L a X.drew := h.low ⟨rfl, rfl, rfl, Nat.le_refl _, fun _ _ => rfl⟩
theorem XD.alloc (h : XD w x s k mm oo b2 b3 vP vE vL P E L a X) (o : Obj) : XD w x s k mm oo b2 b3 vP vE vL P E L a (X.alloc o) := h.low ((Below.refl _ _).alloc (Nat.le_refl _) _)
theorem XD.read (h : XD w x s k mm oo b2 b3 vP vE vL P E L a X) {a' : Nat} (hr : Rr X' x s a') (hs : Stays (only x) X X') : XD w x s k mm oo b2 b3 vP vE vL P E L a' X' := by
  have hx := h.hx; have hk := h.hk
  refine ⟨h.tw.stays hs (fun i hi => ?_), hr, ?_, ?_, h.dP, h.dE, hx, hk⟩
  · have e : i = x := hi
    exact ⟨by omega, Or.inl e⟩
  · rw [hs.block _ (lt_of_block h.rb) (fun e => by unfold only at e; omega)]; exact h.rb
  · refine ⟨h.oL.1, ?_⟩
    rcases h.oL.2 with h0 | ⟨g, cap, cur, hv, hb, hg, r⟩
    · exact .inl h0
    · refine .inr ⟨g, cap, cur, hv, hb, ?_, r⟩
      rw [hs.block g (lt_of_block hg) (fun e => by unfold only at e; omega)]
      exact hg
theorem XD.pushP (h : XD w x s k mm oo b2 b3 vP vE vL P E L a X) {g cap : Nat} {w1 : World} {p : Int} (ho : w1.ownsRow (k + 1) 3 1 (.slice (some ⟨g, 0, none⟩) (P.length + 1) cap) (P.length + 1) (intsC P ++ [.int .i64 p])) (hg : X.grownBy w1 vP.ownBlock) (hat : vP.ownBlock = some g ∨ g = X.heap.size) :
    XD w x s k mm oo b2 b3 (.slice (some ⟨g, 0, none⟩) (P.length + 1) cap) vE vL (P ++ [p]) E L a w1 := by
  have hx := h.hx; have hk := h.hk
  have hlt := fun b hb => (h.oP.lt b hb).1
  refine ⟨h.tw.pushP ho hg hat, ?_, ?_, ?_, fun y hy hz => ?_, h.dE, hx, hk⟩
  · unfold Rr; rw [hg.block _ h.rd.lt (fun e => by have := hlt _ e.symm; omega)]; exact h.rd
  · rw [hg.block _ (lt_of_block h.rb) (fun e => by have := hlt _ e.symm; omega)]; exact h.rb
  · refine h.oL.kept hg ?_
    cases e : vL.ownBlock with
    | none => exact .inl rfl
    | some y => exact .inr (fun e2 => h.dP y e2.symm e)
  · have e : g = y := by simpa [Value.ownBlock] using hy
    subst e
    rcases hat with h1 | h1
    · exact h.dP _ h1 hz
    · have := (h.oL.lt _ hz).2; omega
theorem XD.pushE (h : XD w x s k mm oo b2 b3 vP vE vL P E L a X) {g cap : Nat} {w1 : World} {p : Int} (ho : w1.ownsRow (k + 1) 3 1 (.slice (some ⟨g, 0, none⟩) (E.length + 1) cap) (E.length + 1) (intsC E ++ [.int .i64 p])) (hg : X.grownBy w1 vE.ownBlock) (hat : vE.ownBlock = some g ∨ g = X.heap.size) :
    XD w x s k mm oo b2 b3 vP (.slice (some ⟨g, 0, none⟩) (E.length + 1) cap) vL P (E ++ [p]) L a w1 := by
  have hx := h.hx; have hk := h.hk
  have hlt := fun b hb => (h.oE.lt b hb).1
  refine ⟨h.tw.pushE ho hg hat, ?_, ?_, ?_, h.dP, fun y hy hz => ?_, hx, hk⟩
  · unfold Rr; rw [hg.block _ h.rd.lt (fun e => by have := hlt _ e.symm; omega)]; exact h.rd
  · rw [hg.block _ (lt_of_block h.rb) (fun e => by have := hlt _ e.symm; omega)]; exact h.rb
  · refine h.oL.kept hg ?_
    cases e : vL.ownBlock with
    | none => exact .inl rfl
    | some y => exact .inr (fun e2 => h.dE y e2.symm e)
  · have e : g = y := by simpa [Value.ownBlock] using hy
    subst e
    rcases hat with h1 | h1
    · exact h.dE _ h1 hz
    · have := (h.oL.lt _ hz).2; omega
theorem XD.pushL (h : XD w x s k mm oo b2 b3 vP vE vL P E L a X) {g cap : Nat} {w1 : World} {p : Int} (ho : w1.ownsRow (k + 1) 3 1 (.slice (some ⟨g, 0, none⟩) (L.length + 1) cap) (L.length + 1) (intsC L ++ [.int .i64 p])) (hg : X.grownBy w1 vL.ownBlock) (hat : vL.ownBlock = some g ∨ g = X.heap.size) :
    XD w x s k mm oo b2 b3 vP vE (.slice (some ⟨g, 0, none⟩) (L.length + 1) cap) P E (L ++ [p]) a w1 := by
  have hx := h.hx; have hk := h.hk
  have hlt := fun b hb => (h.oL.lt b hb).1
  refine ⟨h.tw.grown hg (fun b hb => by have := hlt b hb; omega) (fun y hy e => h.dP y hy e) (fun y hy e => h.dE y hy e), ?_, ?_, ?_, fun y hy hz => ?_, fun y hy hz => ?_, hx, hk⟩
  · unfold Rr; rw [hg.block _ h.rd.lt (fun e => by have := hlt _ e.symm; omega)]; exact h.rd
  · rw [hg.block _ (lt_of_block h.rb) (fun e => by have := hlt _ e.symm; omega)]; exact h.rb
  · rw [List.length_append, intsC_append]; exact ho
  · have e : g = y := by simpa [Value.ownBlock] using hz
    subst e
    rcases hat with h1 | h1
    · exact h.dP _ hy h1
    · have := (h.oP.lt _ hy).2; omega
  · have e : g = y := by simpa [Value.ownBlock] using hz
    subst e
    rcases hat with h1 | h1
    · exact h.dE _ hy h1
    · have := (h.oE.lt _ hy).2; omega
theorem XD.set (h : XD w x s k mm oo b2 b3 vP vE vL P E L a X) : XD w x s k mm oo vP vE vP vE vL P E L a ((X.setCell ⟨k, 2, none⟩ vP).setCell ⟨k, 3, none⟩ vE) := by
  have hx := h.hx; have hk := h.hk
  refine ⟨h.tw.set, ?_, ?_, ownsRow_setCell_below (ownsRow_setCell_below h.oL (Nat.lt_succ_self k) _) (Nat.lt_succ_self k) _, h.dP, h.dE, hx, hk⟩
  · unfold Rr; rw [Below.heap_setCell _ _ _ _ (by show x ≠ k; omega), Below.heap_setCell _ _ _ _ (by show x ≠ k; omega)]; exact h.rd
  · rw [Below.heap_setCell _ _ _ _ (by show w.heap.size ≠ k; omega), Below.heap_setCell _ _ _ _ (by show w.heap.size ≠ k; omega)]; exact h.rb
theorem XD.shape (h : XD w x s k mm oo b2 b3 vP vE vL P E L a X) : ∃ pa pc ea ec la lc, vP = .slice pa P.length pc ∧ vE = .slice ea E.length ec ∧ vL = .slice la L.length lc := by
  obtain ⟨pa, pc, h1, _⟩ := owns_shape h.oP
  obtain ⟨ea, ec, h2, _⟩ := owns_shape h.oE
  obtain ⟨la, lc, h3, _⟩ := owns_shape h.oL
  exact ⟨pa, pc, ea, ec, la, lc, h1, h2, h3⟩
theorem XD.shapeL (h : XD w x s k mm oo b2 b3 vP vE vL P E L a X) : ∃ la lc, vL = .slice la L.length lc := by
  obtain ⟨la, lc, h3, _⟩ := owns_shape h.oL
  exact ⟨la, lc, h3⟩
/-- Read with its first cells. -/
theorem XD.new (w1 : World) (hx : x < w.heap.size) (hr : Rr X x s a) (hs : Stays (only x) w X) (hb : X.heap[w.heap.size]? = some (.cells #[.int .i64 0, .int .i64 0, .slice none 0 0, .slice none 0 0] 24 (0, 0))) (X2 : World) (hb2 : Below (X.heap.size + 1) (X.alloc (.cells #[.int .i64 mm, .int .i64 oo, .slice none 0 0, .slice none 0 0] 24)) X2) (cur : Array Value) (cap : Nat) (hc : cur.size = cap * 1) (hm : cap ≤ maxLen) :
    XD w x s X.heap.size mm oo (.slice none 0 0) (.slice none 0 0) (.slice none 0 0) (.slice none 0 0) (.slice (some ⟨X2.heap.size, 0, none⟩) 0 cap) [] [] [] a (X2.alloc (.cells cur 3)) := by
  have hl := lt_of_block hb
  have e1 : (X.alloc (.cells #[.int .i64 mm, .int .i64 oo, .slice none 0 0, .slice none 0 0] 24)).heap.size = X.heap.size + 1 := by simp
  have hs2 := hb2.size
  have hB : Below X.heap.size X X2 := ((Below.refl _ _).alloc (Nat.le_refl _) _).trans (hb2.mono (by omega))
  have hB3 : Below X.heap.size X (X2.alloc (.cells cur 3)) := hB.trans ((Below.refl _ _).alloc (by have := hB.size; omega) _)
  have hk2 : X2.heap[X.heap.size]? = some (.cells #[.int .i64 mm, .int .i64 oo, .slice none 0 0, .slice none 0 0] 24 (0, 0)) := by
    rw [hb2.block _ (by omega)]; exact heap_alloc_new _ _
  have hk3 : (X2.alloc (.cells cur 3)).heap[X.heap.size]? = some (.cells #[.int .i64 mm, .int .i64 oo, .slice none 0 0, .slice none 0 0] 24 (0, 0)) := by
    rw [((Below.refl X2.heap.size X2).alloc (Nat.le_refl _) (.cells cur 3)).block _ (lt_of_block hk2)]; exact hk2
  refine ⟨⟨fun i hi => Or.inr (by omega), (hs.mono (fun i hi e => Or.inl e)).trans (Stays.of_below hB3 (fun i => i = x ∨ w.heap.size ≤ i)) (fun _ _ h => h), hk3, World.ownsRow_nil _ _ _ _, World.ownsRow_nil _ _ _ _, fun g hg => by cases hg⟩, ?_, ?_, World.ownsRow_made X2 cur cap (by omega) hm hc, fun g hg => (by cases hg), fun g hg => (by cases hg), hx, hl⟩
  · unfold Rr; rw [hB3.block _ hr.lt]; exact hr
  · rw [hB3.block _ hl]; exact hb
end
theorem rdParts_num {s : ByteArray} {m : Int} {b o r i a : Nat} {d : Dec} (h0 : 0 ≤ m) (h1 : m ≤ 1) (h : rdParts s m b o r i a = some d) : (∀ x ∈ d.L, -9223372036854775808 ≤ x ∧ x ≤ 9223372036854775807) ∧ (∀ x ∈ d.P, -9223372036854775808 ≤ x ∧ x ≤ 9223372036854775807) ∧ (∀ x ∈ d.E, -9223372036854775808 ≤ x ∧ x ≤ 9223372036854775807) := by
  induction i generalizing d with
  | zero => unfold rdParts at h; cases h; exact ⟨fun x hx => (by cases hx), fun x hx => (by cases hx), fun x hx => (by cases hx)⟩
  | succ i ih =>
    obtain ⟨d0, k, e, a1, X, g1, g2, g3, g4, g5, g6⟩ := rdParts_inv h
    obtain ⟨i1, i2, i3⟩ := ih g1
    have hm := rdHead_may h0 h1 g2
    have hk : 0 ≤ k ∧ k ≤ 30 ∧ -1 ≤ e ∧ e ≤ 31 := by unfold mayOk at hm; omega
    rw [g4, g5, g6]
    refine ⟨fun y hy => ?_, fun y hy => ?_, fun y hy => ?_⟩ <;> rcases List.mem_append.1 hy with hy | hy
    · exact i1 y hy
    · exact rdAll_num hk.2.1 hk.2.2.2 g3 y hy
    · exact i2 y hy
    · rw [List.mem_singleton] at hy; omega
    · exact i3 y hy
    · rw [List.mem_singleton] at hy; omega

end Go.Proofs.Ytdlakbgcflekkaa

namespace Go.Proofs.Ytdlakbgcflekkaa
open Go.RowKit
set_option linter.unusedSimpArgs false
set_option linter.unusedVariables false
set_option maxRecDepth 20000 in
set_option maxHeartbeats 3200000 in
theorem xdec_arg (x : Nat) (b r : Int) (w : World) (hno : ¬ argOk b r) :
    Calls Try.prog 22 #[.pointer (some ⟨x, 0, none⟩), .int .i64 b, .int .i64 r] w fun en w' => en = .returned (.tuple #[.slice none 0 0, zRice, .int .i64 1]) ∧ Below w.heap.size w w' := by
  by_cases h1 : b < 1
  · clear hno
    go_enter Try.func22, Try.ntmps22
    go_wp2_with fail
    generalize hwf : World.alloc _ _ = wf
    have hH : wf.heap[w.heap.size]? = some (.cells #[.int .i64 0, .int .i64 0, .slice none 0 0, .slice none 0 0] 24 (0, 0)) := by rw [← hwf]; exact heap_alloc_new _ _
    have hS : Below w.heap.size w wf := by rw [← hwf]; exact (Below.refl _ _).alloc (Nat.le_refl _) _
    refine bodyPost_ret (v := .tuple #[.slice none 0 0, zRice, .int .i64 1]) ?_ rfl ⟨rfl, hS⟩
    rw [results_mid rfl]
    have hl0 := run_loadVar_row (P := Try.prog) wf (w.heap.size) 24 24 #[.int .i64 0, .int .i64 0, .slice none 0 0, .slice none 0 0] (0, 0) _ hH Try.underlying24 rfl info_Rice
    simp [asAddr, Result.andThen, hl0]
  · skip
    by_cases h2 : 65535 < b
    · clear hno
      go_enter Try.func22, Try.ntmps22
      go_wp2_with fail
      generalize hwf : World.alloc _ _ = wf
      have hH : wf.heap[w.heap.size]? = some (.cells #[.int .i64 0, .int .i64 0, .slice none 0 0, .slice none 0 0] 24 (0, 0)) := by rw [← hwf]; exact heap_alloc_new _ _
      have hS : Below w.heap.size w wf := by rw [← hwf]; exact (Below.refl _ _).alloc (Nat.le_refl _) _
      refine bodyPost_ret (v := .tuple #[.slice none 0 0, zRice, .int .i64 1]) ?_ rfl ⟨rfl, hS⟩
      rw [results_mid rfl]
      have hl0 := run_loadVar_row (P := Try.prog) wf (w.heap.size) 24 24 #[.int .i64 0, .int .i64 0, .slice none 0 0, .slice none 0 0] (0, 0) _ hH Try.underlying24 rfl info_Rice
      simp [asAddr, Result.andThen, hl0]
    · skip
      by_cases h3 : r < 0
      · clear hno
        go_enter Try.func22, Try.ntmps22
        go_wp2_with fail
        generalize hwf : World.alloc _ _ = wf
        have hH : wf.heap[w.heap.size]? = some (.cells #[.int .i64 0, .int .i64 0, .slice none 0 0, .slice none 0 0] 24 (0, 0)) := by rw [← hwf]; exact heap_alloc_new _ _
        have hS : Below w.heap.size w wf := by rw [← hwf]; exact (Below.refl _ _).alloc (Nat.le_refl _) _
        refine bodyPost_ret (v := .tuple #[.slice none 0 0, zRice, .int .i64 1]) ?_ rfl ⟨rfl, hS⟩
        rw [results_mid rfl]
        have hl0 := run_loadVar_row (P := Try.prog) wf (w.heap.size) 24 24 #[.int .i64 0, .int .i64 0, .slice none 0 0, .slice none 0 0] (0, 0) _ hH Try.underlying24 rfl info_Rice
        simp [asAddr, Result.andThen, hl0]
      · skip
        by_cases h4 : 32 < r
        · clear hno
          go_enter Try.func22, Try.ntmps22
          go_wp2_with fail
          generalize hwf : World.alloc _ _ = wf
          have hH : wf.heap[w.heap.size]? = some (.cells #[.int .i64 0, .int .i64 0, .slice none 0 0, .slice none 0 0] 24 (0, 0)) := by rw [← hwf]; exact heap_alloc_new _ _
          have hS : Below w.heap.size w wf := by rw [← hwf]; exact (Below.refl _ _).alloc (Nat.le_refl _) _
          refine bodyPost_ret (v := .tuple #[.slice none 0 0, zRice, .int .i64 1]) ?_ rfl ⟨rfl, hS⟩
          rw [results_mid rfl]
          have hl0 := run_loadVar_row (P := Try.prog) wf (w.heap.size) 24 24 #[.int .i64 0, .int .i64 0, .slice none 0 0, .slice none 0 0] (0, 0) _ hH Try.underlying24 rfl info_Rice
          simp [asAddr, Result.andThen, hl0]
        · skip
          by_cases h5 : b < r
          · clear hno
            go_enter Try.func22, Try.ntmps22
            go_wp2_with fail
            generalize hwf : World.alloc _ _ = wf
            have hH : wf.heap[w.heap.size]? = some (.cells #[.int .i64 0, .int .i64 0, .slice none 0 0, .slice none 0 0] 24 (0, 0)) := by rw [← hwf]; exact heap_alloc_new _ _
            have hS : Below w.heap.size w wf := by rw [← hwf]; exact (Below.refl _ _).alloc (Nat.le_refl _) _
            refine bodyPost_ret (v := .tuple #[.slice none 0 0, zRice, .int .i64 1]) ?_ rfl ⟨rfl, hS⟩
            rw [results_mid rfl]
            have hl0 := run_loadVar_row (P := Try.prog) wf (w.heap.size) 24 24 #[.int .i64 0, .int .i64 0, .slice none 0 0, .slice none 0 0] (0, 0) _ hH Try.underlying24 rfl info_Rice
            simp [asAddr, Result.andThen, hl0]
          · skip
            exact absurd ⟨by omega, by omega, by omega, by omega, by omega⟩ hno
set_option maxRecDepth 20000 in
set_option maxHeartbeats 3200000 in
theorem xdec_top (x : Nat) (s : ByteArray) (hs : s.size ≤ 1000000000000000000) (a : Nat) (ha : a ≤ 8 * s.size) (b r : Int) (hok : argOk b r) (w : World) (h : Rr w x s a) (hn : rdTop s a b r = none) :
    Calls Try.prog 22 #[.pointer (some ⟨x, 0, none⟩), .int .i64 b, .int .i64 r] w fun en w' => en = .returned (.tuple #[.slice none 0 0, zRice, .int .i64 2]) ∧ Stays (only x) w w' := by
  obtain ⟨hb1, hb2, hr1, hr2, hrb⟩ := hok
  have hx := h.lt
  have HB0 : Hid (Below w.heap.size w (w.alloc (.cells #[.int .i64 0, .int .i64 0, .slice none 0 0, .slice none 0 0] 24))) := (Below.refl _ _).alloc (Nat.le_refl _) _
  have HX0 : Hid ((w.alloc (.cells #[.int .i64 0, .int .i64 0, .slice none 0 0, .slice none 0 0] 24)).heap[w.heap.size]? = some (.cells #[.int .i64 0, .int .i64 0, .slice none 0 0, .slice none 0 0] 24 (0, 0))) := heap_alloc_new _ _
  have HR0 : Hid (Rr (w.alloc (.cells #[.int .i64 0, .int .i64 0, .slice none 0 0, .slice none 0 0] 24)) x s a) := by show Rr _ _ _ _; unfold Rr; rw [HB0.out.block _ hx]; exact h
  clear h
  have KG : Hid (∀ (a' : Nat) (k : Int) wx, a' ≤ 8 * s.size → Rr wx x s a' → Calls Try.prog 46 #[.pointer (some ⟨x, 0, none⟩), .int .i64 k] wx fun e w' => e = .returned (.tuple #[.int .u64 (getV s a' k), .int .i64 (getE s a' k)]) ∧ Rr w' x s (getA s a' k) ∧ Stays (only x) wx w') := fun a' k wx h1 h2 => refget_all s hs a' h1 wx x k h2
  have hn' : getE s a 2 = 0 → getV s a 2 ≤ 1 → getE s (getA s a 2) 4 = 0 → shapeB ⟨getV s a 2, getV s (getA s a 2) 4, [], []⟩ b r = false := fun h1 h2 h3 => by
    have h4 := getV_2 s a
    refine decide_eq_false (fun h => ?_)
    unfold rdTop at hn
    rw [if_pos ⟨h1, h2⟩, if_pos ⟨h3, h.2⟩] at hn
    cases hn
  clear hn
  go_enter Try.func22, Try.ntmps22
  go_wp2_with fail
  generalize hwa : w.alloc _ = wa at *
  have hwz : w.heap.size < wa.heap.size := lt_of_block HX0.out
  clear hwa
  refine (KG.out a 2 wa ha HR0.out).mono ?_
  rintro e w2 ⟨rfl, h2, h2s⟩
  have HS2 : Hid (Stays (only x) w w2) := (Stays.of_below HB0.out _).trans h2s (fun _ _ h => h)
  have HX2 : Hid (w2.heap[w.heap.size]? = some (.cells #[.int .i64 0, .int .i64 0, .slice none 0 0, .slice none 0 0] 24 (0, 0))) := by show _ = _; rw [h2s.block _ hwz (fun e => by unfold only at e; omega)]; exact HX0.out
  have HR2 : Hid (Rr w2 x s (getA s a 2)) := h2
  have hv2 := getV_2 s a
  have ha2 := getA_le s a 2 ha
  clear h2 h2s HX0 HR0 HB0 hwz
  generalize getE s a 2 = e1 at *
  generalize getV s a 2 = m at *
  generalize getA s a 2 = a1 at *
  by_cases he : e1 = 0
  · by_cases hm : 1 < m
    · subst he
      clear hn'
      have hx2 := HX2.out
      have u0 : w2.cell? ⟨w.heap.size, 0, none⟩ = some (.int .i64 0) := by rw [cell_of_row _ _ _ _ _ _ hx2]; rfl
      have fu0 : w2.frozen? ⟨w.heap.size, 0, none⟩ = false := by simp [World.frozen?, hx2]
      have u1 : w2.cell? ⟨w.heap.size, 1, none⟩ = some (.int .i64 0) := by rw [cell_of_row _ _ _ _ _ _ hx2]; rfl
      have fu1 : w2.frozen? ⟨w.heap.size, 1, none⟩ = false := by simp [World.frozen?, hx2]
      have u2 : w2.cell? ⟨w.heap.size, 2, none⟩ = some (.slice none 0 0) := by rw [cell_of_row _ _ _ _ _ _ hx2]; rfl
      have fu2 : w2.frozen? ⟨w.heap.size, 2, none⟩ = false := by simp [World.frozen?, hx2]
      have u3 : w2.cell? ⟨w.heap.size, 3, none⟩ = some (.slice none 0 0) := by rw [cell_of_row _ _ _ _ _ _ hx2]; rfl
      have fu3 : w2.frozen? ⟨w.heap.size, 3, none⟩ = false := by simp [World.frozen?, hx2]
      clear hx2
      go_wp2_with fail
      generalize hwf : World.setCell _ _ _ = wf
      have hH : wf.heap[w.heap.size]? = some (.cells #[.int .i64 0, .int .i64 0, .slice none 0 0, .slice none 0 0] 24 (0, 0)) := by rw [← hwf]; exact set4_a _ _ _ _ _ HX2.out
      have hS : Stays (only x) w wf := by rw [← hwf]; exact set4_c _ _ _ _ _ _ _ (Nat.le_refl _) HS2.out
      refine bodyPost_ret (v := .tuple #[.slice none 0 0, zRice, .int .i64 2]) ?_ rfl (⟨rfl, hS⟩)
      rw [results_mid rfl]
      have hl0 := run_loadVar_row (P := Try.prog) wf (w.heap.size) 24 24 #[.int .i64 0, .int .i64 0, .slice none 0 0, .slice none 0 0] (0, 0) _ hH Try.underlying24 rfl info_Rice
      simp [asAddr, Result.andThen, hl0]
    · have HN : Hid (getE s a1 4 = 0 → shapeB ⟨m, getV s a1 4, [], []⟩ b r = false) := hn' he (by omega)
      clear hn'
      subst he
      have hm1 : m ≤ 1 := by omega
      go_wp2_with fail
      refine (KG.out a1 4 w2 ha2 HR2.out).mono ?_
      rintro e w3 ⟨rfl, h3, h3s⟩
      have hv4 := getV_4 s a1
      generalize getV s a1 4 = oo at *
      have HS3 : Hid (Stays (only x) w w3) := HS2.out.trans h3s (fun _ _ h => h)
      have hz2 := lt_of_block HX2.out
      have HX3 : Hid (w3.heap[w.heap.size]? = some (.cells #[.int .i64 0, .int .i64 0, .slice none 0 0, .slice none 0 0] 24 (0, 0))) := by show _ = _; rw [h3s.block _ hz2 (fun e => by unfold only at e; omega)]; exact HX2.out
      have HB4 : Hid (Below w3.heap.size w3 (w3.alloc (.cells #[.int .i64 m, .int .i64 oo, .slice none 0 0, .slice none 0 0] 24))) := (Below.refl _ _).alloc (Nat.le_refl _) _
      have HX4 : Hid ((w3.alloc (.cells #[.int .i64 m, .int .i64 oo, .slice none 0 0, .slice none 0 0] 24)).heap[w.heap.size]? = some (.cells #[.int .i64 0, .int .i64 0, .slice none 0 0, .slice none 0 0] 24 (0, 0))) := by show _ = _; rw [HB4.out.block _ (lt_of_block HX3.out)]; exact HX3.out
      have HK4 : Hid ((w3.alloc (.cells #[.int .i64 m, .int .i64 oo, .slice none 0 0, .slice none 0 0] 24)).heap[w3.heap.size]? = some (.cells #[.int .i64 m, .int .i64 oo, .slice none 0 0, .slice none 0 0] 24 (0, 0))) := heap_alloc_new _ _
      have HS4 : Hid (Stays (only x) w (w3.alloc (.cells #[.int .i64 m, .int .i64 oo, .slice none 0 0, .slice none 0 0] 24))) := HS3.out.trans (Stays.of_below HB4.out _) (fun _ _ h => h)
      have hz3 := lt_of_block HX3.out
      clear h3 h3s HS2 HX2 HR2
      generalize getE s a1 4 = e2 at *
      by_cases h2 : e2 = 0
      · subst h2
        have ks := xshape_spec ⟨m, oo, [], []⟩ b r none 0 none 0 (w3.alloc (.cells #[.int .i64 m, .int .i64 oo, .slice none 0 0, .slice none 0 0] 24))
        rw [HN.out rfl] at ks
        have y0 : (w3.alloc (.cells #[.int .i64 m, .int .i64 oo, .slice none 0 0, .slice none 0 0] 24)).cell? ⟨w3.heap.size, 0, none⟩ = some (.int .i64 m) := by rw [cell_of_row _ _ _ _ _ _ HK4.out]; rfl
        have y1 : (w3.alloc (.cells #[.int .i64 m, .int .i64 oo, .slice none 0 0, .slice none 0 0] 24)).cell? ⟨w3.heap.size, 1, none⟩ = some (.int .i64 oo) := by rw [cell_of_row _ _ _ _ _ _ HK4.out]; rfl
        have y2 : (w3.alloc (.cells #[.int .i64 m, .int .i64 oo, .slice none 0 0, .slice none 0 0] 24)).cell? ⟨w3.heap.size, 2, none⟩ = some (.slice none 0 0) := by rw [cell_of_row _ _ _ _ _ _ HK4.out]; rfl
        have y3 : (w3.alloc (.cells #[.int .i64 m, .int .i64 oo, .slice none 0 0, .slice none 0 0] 24)).cell? ⟨w3.heap.size, 3, none⟩ = some (.slice none 0 0) := by rw [cell_of_row _ _ _ _ _ _ HK4.out]; rfl
        go_wp2_with fail
        generalize hw4 : World.alloc _ _ = w4 at *
        generalize hk4 : w3.heap.size = k4 at *
        clear hw4
        refine ks.mono ?_
        rintro e w5 ⟨rfl, hb5⟩
        have HX5 : Hid (w5.heap[w.heap.size]? = some (.cells #[.int .i64 0, .int .i64 0, .slice none 0 0, .slice none 0 0] 24 (0, 0))) := by show _ = _; rw [hb5.block _ (lt_of_block HX4.out)]; exact HX4.out
        have HS5 : Hid (Stays (only x) w w5) := HS4.out.trans (Stays.of_below hb5 _) (fun _ _ h => h)
        have hx5 := HX5.out
        clear hb5 ks y0 y1 y2 y3
        have u0 : w5.cell? ⟨w.heap.size, 0, none⟩ = some (.int .i64 0) := by rw [cell_of_row _ _ _ _ _ _ hx5]; rfl
        have fu0 : w5.frozen? ⟨w.heap.size, 0, none⟩ = false := by simp [World.frozen?, hx5]
        have u1 : w5.cell? ⟨w.heap.size, 1, none⟩ = some (.int .i64 0) := by rw [cell_of_row _ _ _ _ _ _ hx5]; rfl
        have fu1 : w5.frozen? ⟨w.heap.size, 1, none⟩ = false := by simp [World.frozen?, hx5]
        have u2 : w5.cell? ⟨w.heap.size, 2, none⟩ = some (.slice none 0 0) := by rw [cell_of_row _ _ _ _ _ _ hx5]; rfl
        have fu2 : w5.frozen? ⟨w.heap.size, 2, none⟩ = false := by simp [World.frozen?, hx5]
        have u3 : w5.cell? ⟨w.heap.size, 3, none⟩ = some (.slice none 0 0) := by rw [cell_of_row _ _ _ _ _ _ hx5]; rfl
        have fu3 : w5.frozen? ⟨w.heap.size, 3, none⟩ = false := by simp [World.frozen?, hx5]
        clear hx5
        go_wp2_with fail
        generalize hwf : World.setCell _ _ _ = wf
        have hH : wf.heap[w.heap.size]? = some (.cells #[.int .i64 0, .int .i64 0, .slice none 0 0, .slice none 0 0] 24 (0, 0)) := by rw [← hwf]; exact set4_a _ _ _ _ _ HX5.out
        have hS : Stays (only x) w wf := by rw [← hwf]; exact set4_c _ _ _ _ _ _ _ (Nat.le_refl _) HS5.out
        refine bodyPost_ret (v := .tuple #[.slice none 0 0, zRice, .int .i64 2]) ?_ rfl (⟨rfl, hS⟩)
        rw [results_mid rfl]
        have hl0 := run_loadVar_row (P := Try.prog) wf (w.heap.size) 24 24 #[.int .i64 0, .int .i64 0, .slice none 0 0, .slice none 0 0] (0, 0) _ hH Try.underlying24 rfl info_Rice
        simp [asAddr, Result.andThen, hl0]
      · have hb : (e2 != 0) = true := by rw [bne_iff_ne]; exact h2
        go_upto_region 9 with fail
        generalize hw4 : World.alloc _ _ = w4 at *
        clear hw4 HK4 HB4
        have hx5 := HX4.out
        have u0 : w4.cell? ⟨w.heap.size, 0, none⟩ = some (.int .i64 0) := by rw [cell_of_row _ _ _ _ _ _ hx5]; rfl
        have fu0 : w4.frozen? ⟨w.heap.size, 0, none⟩ = false := by simp [World.frozen?, hx5]
        have u1 : w4.cell? ⟨w.heap.size, 1, none⟩ = some (.int .i64 0) := by rw [cell_of_row _ _ _ _ _ _ hx5]; rfl
        have fu1 : w4.frozen? ⟨w.heap.size, 1, none⟩ = false := by simp [World.frozen?, hx5]
        have u2 : w4.cell? ⟨w.heap.size, 2, none⟩ = some (.slice none 0 0) := by rw [cell_of_row _ _ _ _ _ _ hx5]; rfl
        have fu2 : w4.frozen? ⟨w.heap.size, 2, none⟩ = false := by simp [World.frozen?, hx5]
        have u3 : w4.cell? ⟨w.heap.size, 3, none⟩ = some (.slice none 0 0) := by rw [cell_of_row _ _ _ _ _ _ hx5]; rfl
        have fu3 : w4.frozen? ⟨w.heap.size, 3, none⟩ = false := by simp [World.frozen?, hx5]
        clear hx5
        go_wp2_with fail
        generalize hwf : World.setCell _ _ _ = wf
        have hH : wf.heap[w.heap.size]? = some (.cells #[.int .i64 0, .int .i64 0, .slice none 0 0, .slice none 0 0] 24 (0, 0)) := by rw [← hwf]; exact set4_a _ _ _ _ _ HX4.out
        have hS : Stays (only x) w wf := by rw [← hwf]; exact set4_c _ _ _ _ _ _ _ (Nat.le_refl _) HS4.out
        refine bodyPost_ret (v := .tuple #[.slice none 0 0, zRice, .int .i64 2]) ?_ rfl (⟨rfl, hS⟩)
        rw [results_mid rfl]
        have hl0 := run_loadVar_row (P := Try.prog) wf (w.heap.size) 24 24 #[.int .i64 0, .int .i64 0, .slice none 0 0, .slice none 0 0] (0, 0) _ hH Try.underlying24 rfl info_Rice
        simp [asAddr, Result.andThen, hl0]
  · have hb : (e1 != 0) = true := by rw [bne_iff_ne]; exact he
    clear hn'
    have hx2 := HX2.out
    have u0 : w2.cell? ⟨w.heap.size, 0, none⟩ = some (.int .i64 0) := by rw [cell_of_row _ _ _ _ _ _ hx2]; rfl
    have fu0 : w2.frozen? ⟨w.heap.size, 0, none⟩ = false := by simp [World.frozen?, hx2]
    have u1 : w2.cell? ⟨w.heap.size, 1, none⟩ = some (.int .i64 0) := by rw [cell_of_row _ _ _ _ _ _ hx2]; rfl
    have fu1 : w2.frozen? ⟨w.heap.size, 1, none⟩ = false := by simp [World.frozen?, hx2]
    have u2 : w2.cell? ⟨w.heap.size, 2, none⟩ = some (.slice none 0 0) := by rw [cell_of_row _ _ _ _ _ _ hx2]; rfl
    have fu2 : w2.frozen? ⟨w.heap.size, 2, none⟩ = false := by simp [World.frozen?, hx2]
    have u3 : w2.cell? ⟨w.heap.size, 3, none⟩ = some (.slice none 0 0) := by rw [cell_of_row _ _ _ _ _ _ hx2]; rfl
    have fu3 : w2.frozen? ⟨w.heap.size, 3, none⟩ = false := by simp [World.frozen?, hx2]
    clear hx2
    go_wp2_with fail
    generalize hwf : World.setCell _ _ _ = wf
    have hH : wf.heap[w.heap.size]? = some (.cells #[.int .i64 0, .int .i64 0, .slice none 0 0, .slice none 0 0] 24 (0, 0)) := by rw [← hwf]; exact set4_a _ _ _ _ _ HX2.out
    have hS : Stays (only x) w wf := by rw [← hwf]; exact set4_c _ _ _ _ _ _ _ (Nat.le_refl _) HS2.out
    refine bodyPost_ret (v := .tuple #[.slice none 0 0, zRice, .int .i64 2]) ?_ rfl (⟨rfl, hS⟩)
    rw [results_mid rfl]
    have hl0 := run_loadVar_row (P := Try.prog) wf (w.heap.size) 24 24 #[.int .i64 0, .int .i64 0, .slice none 0 0, .slice none 0 0] (0, 0) _ hH Try.underlying24 rfl info_Rice
    simp [asAddr, Result.andThen, hl0]

end Go.Proofs.Ytdlakbgcflekkaa

namespace Go.Proofs.Ytdlakbgcflekkaa
open Go.RowKit
set_option linter.unusedSimpArgs false
set_option linter.unusedVariables false

section
variable {P : Program} {ops : Array Oper} {Q : Exit → Act → World → Prop} {md : Region.Mode} {S : World → Prop} {n : Nat}
/-- Whatever order is picked; S holds till the operation n has come up (n: the first store, which waits for the loads). -/
def Till (P : Program) (md : Region.Mode) (ops : Array Oper) (Q : Exit → Act → World → Prop) (S : World → Prop) (n : Nat) : Nat → Array Bool → Act → World → Prop
  | 0, listed, a, w => Region.ready md ops listed = [] ∧ Q .normal a w
  | fuel + 1, listed, a, w => (Region.ready md ops listed = [] → Q .normal a w) ∧ ∀ i, i ∈ Region.ready md ops listed → wpOp P ops Q i (fun a' w' => ((listed.setIfInBounds i true).getD n true = false → S w') ∧ Till P md ops Q S n fuel (listed.setIfInBounds i true) a' w') a w
theorem Till.any (fuel : Nat) (listed : Array Bool) (a : Act) (w : World) (h : Till P md ops Q S n fuel listed a w) : wpAny P md ops Q fuel listed a w := by
  induction fuel generalizing listed a w with
  | zero => exact h
  | succ f ih => exact ⟨h.1, fun i hi => wpOp_mono (fun a' w' hh => ih _ a' w' hh.2) (h.2 i hi)⟩
/-- n waits for i. -/
def Waits (md : Region.Mode) (ops : Array Oper) (n i : Nat) : Prop := ∀ on, ops[n]? = some on → ∃ e, e ∈ on.after ∧ Region.binds md e = true ∧ e.on = i
theorem Waits.of {i : Nat} (h : ((ops[n]?).all fun on => on.after.any fun e => Region.binds md e && (e.on == i)) = true) : Waits md ops n i := fun on ho => by
  rw [ho] at h
  simp only [Option.all_some, Array.any_eq_true, Bool.and_eq_true_iff, beq_iff_eq] at h
  obtain ⟨j, hj, h1, h2⟩ := h
  exact ⟨_, Array.getElem_mem hj, h1, h2⟩
theorem Till.first {i : Nat} {oi : Oper} {v : Value} (hi : ops[i]? = some oi) (hsel : ∀ (j : Nat) (o : Oper) cs b, ops[j]? = some o → o.op ≠ .select cs b)
    (hQ : ∀ c a w, Q (.panic c) (a.put oi.dst v) w → Q (.panic c) a w) (hni : n ≠ i) (hwt : Waits md ops n i) (fuel : Nat) :
    ∀ (listed : Array Bool) (a : Act) (w : World), (∀ j oj, ops[j]? = some oj → j ≠ i → listed.getD j true = false → (∀ e ∈ oj.after, Region.binds md e = true → e.on ≠ i) → oi.apart ops oj = true) →
      listed.getD n true = false → i ∈ Region.ready md ops listed → YieldsIf P ops S oi v a → S w → Till P md ops Q S n fuel (listed.setIfInBounds i true) (a.put oi.dst v) w → Till P md ops Q S n (fuel + 1) listed a w := by
  induction fuel with
  | zero =>
    intro listed a w _ hn hr hy hS H
    refine ⟨fun h => (by rw [h] at hr; cases hr), fun j hj => ?_⟩
    by_cases hji : j = i
    · subst hji; exact hy.wpOp hi hS ⟨fun _ => hS, H⟩
    · have := ready_mono hj hji
      rw [H.1] at this
      cases this
  | succ f ih =>
    intro listed a w hfree hn hr hy hS H
    refine ⟨fun h => (by rw [h] at hr; cases hr), fun j hj => ?_⟩
    by_cases hji : j = i
    · subst hji; exact hy.wpOp hi hS ⟨fun _ => hS, H⟩
    obtain ⟨hun, oj, hoj, hall⟩ := mem_ready.1 hj
    have hnot : ∀ e ∈ oj.after, Region.binds md e = true → e.on ≠ i := fun e he hb heq => by
      have h1 := hall e he hb
      have h0 := (mem_ready.1 hr).1
      rw [heq] at h1
      rcases Nat.lt_or_ge i listed.size with h' | h'
      · simp [h'] at h0 h1; rw [h0] at h1; cases h1
      · simp [Array.getElem?_eq_none h'] at h1
    have hjn : j ≠ n := fun e => by
      subst e
      obtain ⟨e, he, hb, heq⟩ := hwt oj hoj
      exact hnot e he hb heq
    have hn2 : (listed.setIfInBounds j true).getD n true = false := by rw [getD_set_ne true hjn]; exact hn
    have hn3 : ((listed.setIfInBounds i true).setIfInBounds j true).getD n true = false := by rw [getD_set_ne true hjn, getD_set_ne true (Ne.symm hni)]; exact hn
    have h2 := wpOp_putIf hoj (hfree j oj hoj hji hun hnot) (fun cs b => hsel i oi cs b hi) (fun cs b => hsel j oj cs b hoj) hQ hy (H.2 j (ready_mono hj hji))
    refine wpOp_mono (fun a' w' h3 => ?_) h2
    have hS' := h3.2.1 hn3
    refine ⟨fun _ => hS', ih (listed.setIfInBounds j true) a' w' (fun k ok hk hki hku hno => hfree k ok hk hki ?_ hno) hn2 (ready_mono hr (Ne.symm hji)) h3.1 hS' ?_⟩
    · by_cases hjk : j = k
      · subst hjk; exact hun
      · rwa [getD_set_ne true hjk] at hku
    · rw [Array.setIfInBounds_comm _ _ hji]
      exact h3.2.2
theorem Till.take {i : Nat} {oi : Oper} {v : Value} {fuel : Nat} {listed : Array Bool} {a : Act} {w : World} (hi : ops[i]? = some oi) (hs : Region.noSelect ops = true) (hf : Region.free md ops listed i = true) (hr : (Region.ready md ops listed).contains i = true)
    (hQ : ∀ c a w, Q (.panic c) (a.put oi.dst v) w → Q (.panic c) a w) (hni : n ≠ i) (hwt : Waits md ops n i) (hn : listed.getD n true = false) (hy : YieldsIf P ops S oi v a) (hS : S w)
    (h : Till P md ops Q S n fuel (listed.setIfInBounds i true) (a.put oi.dst v) w) : Till P md ops Q S n (fuel + 1) listed a w :=
  Till.first hi (Region.noSelect_spec hs) hQ hni hwt fuel listed a w (Region.free_spec hi hf) hn (by simpa using hr) hy hS h
/-- What only moves comes first, whatever the store waits for. -/
theorem Till.firstP {i : Nat} {oi : Oper} {v : Value} (hi : ops[i]? = some oi) (hsel : ∀ (j : Nat) (o : Oper) cs b, ops[j]? = some o → o.op ≠ .select cs b)
    (hQ : ∀ c a w, Q (.panic c) (a.put oi.dst v) w → Q (.panic c) a w) (hni : n ≠ i) (fuel : Nat) :
    ∀ (listed : Array Bool) (a : Act) (w : World), (∀ j oj, ops[j]? = some oj → j ≠ i → listed.getD j true = false → (∀ e ∈ oj.after, Region.binds md e = true → e.on ≠ i) → oi.apart ops oj = true) →
      i ∈ Region.ready md ops listed → YieldsIf P ops (fun _ => True) oi v a → (listed.getD n true = false → S w) → Till P md ops Q S n fuel (listed.setIfInBounds i true) (a.put oi.dst v) w → Till P md ops Q S n (fuel + 1) listed a w := by
  induction fuel with
  | zero =>
    intro listed a w _ hr hy hS H
    refine ⟨fun h => (by rw [h] at hr; cases hr), fun j hj => ?_⟩
    by_cases hji : j = i
    · subst hji; exact hy.wpOp hi trivial ⟨fun h => hS (by rwa [getD_set_ne true (Ne.symm hni)] at h), H⟩
    · have := ready_mono hj hji
      rw [H.1] at this
      cases this
  | succ f ih =>
    intro listed a w hfree hr hy hS H
    refine ⟨fun h => (by rw [h] at hr; cases hr), fun j hj => ?_⟩
    by_cases hji : j = i
    · subst hji; exact hy.wpOp hi trivial ⟨fun h => hS (by rwa [getD_set_ne true (Ne.symm hni)] at h), H⟩
    obtain ⟨hun, oj, hoj, hall⟩ := mem_ready.1 hj
    have hnot : ∀ e ∈ oj.after, Region.binds md e = true → e.on ≠ i := fun e he hb heq => by
      have h1 := hall e he hb
      have h0 := (mem_ready.1 hr).1
      rw [heq] at h1
      rcases Nat.lt_or_ge i listed.size with h' | h'
      · simp [h'] at h0 h1; rw [h0] at h1; cases h1
      · simp [Array.getElem?_eq_none h'] at h1
    have h2 := wpOp_putIf hoj (hfree j oj hoj hji hun hnot) (fun cs b => hsel i oi cs b hi) (fun cs b => hsel j oj cs b hoj) hQ hy (H.2 j (ready_mono hj hji))
    refine wpOp_mono (fun a' w' h3 => ?_) h2
    have hS' : (listed.setIfInBounds j true).getD n true = false → S w' := fun h => h3.2.1 (by
      rw [Array.setIfInBounds_comm _ _ (Ne.symm hji), getD_set_ne true (Ne.symm hni)]; exact h)
    refine ⟨hS', ih (listed.setIfInBounds j true) a' w' (fun k ok hk hki hku hno => hfree k ok hk hki ?_ hno) (ready_mono hr (Ne.symm hji)) h3.1 hS' ?_⟩
    · by_cases hjk : j = k
      · subst hjk; exact hun
      · rwa [getD_set_ne true hjk] at hku
    · rw [Array.setIfInBounds_comm _ _ hji]
      exact h3.2.2
theorem Till.takeP {i : Nat} {oi : Oper} {v : Value} {fuel : Nat} {listed : Array Bool} {a : Act} {w : World} (hi : ops[i]? = some oi) (hs : Region.noSelect ops = true) (hf : Region.free md ops listed i = true) (hr : (Region.ready md ops listed).contains i = true)
    (hQ : ∀ c a w, Q (.panic c) (a.put oi.dst v) w → Q (.panic c) a w) (hni : n ≠ i) (hy : YieldsIf P ops (fun _ => True) oi v a) (hS : S w)
    (h : Till P md ops Q S n fuel (listed.setIfInBounds i true) (a.put oi.dst v) w) : Till P md ops Q S n (fuel + 1) listed a w :=
  Till.firstP hi (Region.noSelect_spec hs) hQ hni fuel listed a w (Region.free_spec hi hf) (by simpa using hr) hy (fun _ => hS) h
def Ups (P : Program) (md : Region.Mode) (ops : Array Oper) (Q : Exit → Act → World → Prop) (S : World → Prop) (n fuel : Nat) (listed : Array Bool) (a : Act) (w : World) (rs : List Nat) : Prop :=
  ∀ i, i ∈ rs → wpOp P ops Q i (fun a' w' => ((listed.setIfInBounds i true).getD n true = false → S w') ∧ Till P md ops Q S n fuel (listed.setIfInBounds i true) a' w') a w
theorem Ups.nil {fuel : Nat} {listed : Array Bool} {a : Act} {w : World} : Ups P md ops Q S n fuel listed a w [] := fun _ h => by cases h
theorem Ups.cons {fuel : Nat} {listed : Array Bool} {a : Act} {w : World} {i : Nat} {o : Oper} {rs : List Nat} (ho : ops[i]? = some o)
    (h : ∀ K' : Act → World → Prop, Shut (∀ a w, ((listed.setIfInBounds i true).getD n true = false → S w) → Till P md ops Q S n fuel (listed.setIfInBounds i true) a w → K' a w) → if Region.wanted o (yielded ops a.tmps) = true then Oper.wp P o a w K' Q else K' (a.put o.dst undef) w)
    (hs : Ups P md ops Q S n fuel listed a w rs) : Ups P md ops Q S n fuel listed a w (i :: rs) := fun j hj => by
  rcases List.mem_cons.1 hj with rfl | hj
  · exact wpOp_step ho (fun K' hK => h K' (fun a w hS hW => hK a w ⟨hS, hW⟩))
  · exact hs j hj
theorem Till.ready {rs : List Nat} {fuel : Nat} {listed : Array Bool} {a : Act} {w : World} (hr : Region.ready md ops listed = rs) (hne : rs ≠ []) (h : Ups P md ops Q S n fuel listed a w rs) : Till P md ops Q S n (fuel + 1) listed a w :=
  ⟨fun h0 => absurd (hr ▸ h0) hne, hr ▸ h⟩
theorem Till.done {fuel : Nat} {listed : Array Bool} {a : Act} {w : World} (hr : Region.ready md ops listed = []) (h : Q .normal a w) : Till P md ops Q S n fuel listed a w := by
  cases fuel with
  | zero => exact ⟨hr, h⟩
  | succ f => exact ⟨fun _ => h, fun i hi => by rw [hr] at hi; cases hi⟩
theorem Till.begin {id : Nat} {a : Act} {w : World} (hm : P.follows .mixedOrders = true) (hS : S w.drew) (h : S w.drew → Till P .any ops Q S n ops.size (Array.replicate ops.size false) a w.drew) : (Code.region id ops true).wp P Q a w :=
  wp_region_any hm (Till.any _ _ _ _ (h hS))
end

end Go.Proofs.Ytdlakbgcflekkaa

namespace Go.Proofs.Ytdlakbgcflekkaa
open Go.RowKit
set_option linter.unusedSimpArgs false
set_option linter.unusedVariables false

/-- A part of a list of numbers, by two places. -/
theorem slice_ints2 (a : Option Addr) (n c f t : Nat) (h1 : f ≤ t) (h2 : t ≤ c) (h0 : a = none → c = 0) :
    ∃ xo, (∀ w, (Instr.slice 22 (.slice a n c) (some (.int .i64 (f : Int))) (some (.int .i64 (t : Int))) none).run Try.prog w = .ok (.slice xo (t - f) (c - f)) w) ∧ (∀ b off, a = some ⟨b, off, none⟩ → f < t → xo = some ⟨b, off + f, none⟩) := by
  cases a with
  | none =>
    have := h0 rfl
    refine ⟨none, fun w => ?_, fun b off q => (by cases q)⟩
    rw [run_slice_lh w 22 none n c undI .i64 .i64 _ _ (by omega) (by omega) (by omega), elemI, size3]
    simp [Result.andThen, sliced]
  | some ad =>
    refine ⟨some (if c = f then ad else ad.add f), fun w => ?_, fun b off q hlt => ?_⟩
    · rw [run_slice_lh w 22 (some ad) n c undI .i64 .i64 _ _ (by omega) (by omega) (by omega), elemI, size3]
      simp only [Result.andThen_ok, sliced, Int.toNat_natCast, Option.map_some, Nat.mul_one]
      split <;> rfl
    · cases q
      rw [if_neg (by omega), Addr.add_mid]
/-- The result's box and the box of the best so far. -/
structure OB (w : World) (bc : Array Value) (X : World) : Prop where
  rb : X.heap[w.heap.size]? = some (.cells #[.int .i64 0, .int .i64 0, .slice none 0 0, .slice none 0 0] 24 (0, 0))
  bb : X.heap[w.heap.size + 1]? = some (.cells bc 24 (0, 0))
  below : Below w.heap.size w X
theorem OB.lt {w X : World} {bc : Array Value} (h : OB w bc X) : w.heap.size + 1 < X.heap.size := lt_of_block h.bb
theorem OB.low {w X X' : World} {bc : Array Value} (h : OB w bc X) (hb : Below X.heap.size X X') : OB w bc X' :=
  ⟨by rw [hb.block _ (lt_of_block h.rb)]; exact h.rb, by rw [hb.block _ h.lt]; exact h.bb, h.below.trans (hb.mono h.below.size)⟩
theorem OB.new (w : World) : OB w #[.int .i64 0, .int .i64 0, .slice none 0 0, .slice none 0 0] ((w.alloc (.cells #[.int .i64 0, .int .i64 0, .slice none 0 0, .slice none 0 0] 24)).alloc (.cells #[.int .i64 0, .int .i64 0, .slice none 0 0, .slice none 0 0] 24)) := by
  refine ⟨heap_two _ _ _, ?_, ((Below.refl _ _).alloc (Nat.le_refl _) _).alloc (by simp) _⟩
  have hh := heap_alloc_new (w.alloc (.cells #[.int .i64 0, .int .i64 0, .slice none 0 0, .slice none 0 0] 24)) (.cells #[.int .i64 0, .int .i64 0, .slice none 0 0, .slice none 0 0] 24)
  rw [show (w.alloc (.cells #[.int .i64 0, .int .i64 0, .slice none 0 0, .slice none 0 0] 24)).heap.size = w.heap.size + 1 from by simp] at hh
  exact hh
set_option maxRecDepth 20000 in
set_option maxHeartbeats 3200000 in
theorem xbest_no (b r : Int) (l : List Int) (hl5 : l.length ≤ 5000) (hall : ∀ o : Nat, o ≤ 4 → cutOk b r o → ¬ (l.length : Int) = b - r) (lo : Option Addr) (cap : Nat) (w : World) :
    Calls Try.prog 27 #[.int .i64 b, .int .i64 r, .slice lo l.length cap] w fun en w' => en = .returned (.tuple #[.agg #[.int .i64 0, .int .i64 0, .slice none 0 0, .slice none 0 0], .int .i64 (-1)]) ∧ Below w.heap.size w w' := by
  have KS : Hid (∀ (o : Nat) wx, Calls Try.prog 40 #[.agg #[.int .i64 0, .int .i64 (o : Int), .slice none 0 0, .slice none 0 0], .int .i64 b, .int .i64 r] wx fun en w' => en = .returned (.bool (shapeB ⟨0, o, [], []⟩ b r)) ∧ Below wx.heap.size wx w') := fun o wx => xshape_spec ⟨0, o, [], []⟩ b r none 0 none 0 wx
  have HOB : Hid (OB w #[.int .i64 0, .int .i64 0, .slice none 0 0, .slice none 0 0] ((w.alloc (.cells #[.int .i64 0, .int .i64 0, .slice none 0 0, .slice none 0 0] 24)).alloc (.cells #[.int .i64 0, .int .i64 0, .slice none 0 0, .slice none 0 0] 24))) := OB.new w
  have HAL : Hid (∀ o : Nat, o ≤ 4 → cutOk b r o → ¬ (l.length : Int) = b - r) := hall
  clear hall
  go_enter Try.func27, Try.ntmps27
  go_wp2_with fail
  generalize hwa : World.alloc _ _ = wa at *
  clear hwa
  go_loopw [9, 10] (fun s9 s10 wr => ∃ o : Nat, o ≤ 5 ∧ s9 = .int .i64 (-1) ∧ s10 = .int .i64 (o : Int) ∧ OB w #[.int .i64 0, .int .i64 0, .slice none 0 0, .slice none 0 0] wr) (fun _ s10 _ => 5 - (intOf s10).toNat)
  case atStart => exact ⟨0, by omega, rfl, rfl, HOB.out⟩
  case round =>
    clear HOB
    obtain ⟨o, ho, rfl, rfl, hob⟩ := hrel
    have HO : Hid (OB w #[.int .i64 0, .int .i64 0, .slice none 0 0, .slice none 0 0] wr) := hob
    clear hob
    by_cases hlt : o ≤ 4
    · have HO2 : Hid (OB w #[.int .i64 0, .int .i64 0, .slice none 0 0, .slice none 0 0] (wr.alloc (.cells #[.int .i64 0, .int .i64 (o : Int), .slice none 0 0, .slice none 0 0] 24))) := HO.out.low ((Below.refl _ _).alloc (Nat.le_refl _) _)
      have HX2 : Hid ((wr.alloc (.cells #[.int .i64 0, .int .i64 (o : Int), .slice none 0 0, .slice none 0 0] 24)).heap[wr.heap.size]? = some (.cells #[.int .i64 0, .int .i64 (o : Int), .slice none 0 0, .slice none 0 0] 24 (0, 0))) := heap_alloc_new _ _
      go_wp2_with fail
      generalize hw2 : World.alloc _ _ = w2 at *
      clear hw2
      refine (KS.out o w2).mono ?_
      rintro e w3 ⟨rfl, hb3⟩
      have HO3 : Hid (OB w #[.int .i64 0, .int .i64 0, .slice none 0 0, .slice none 0 0] w3) := HO2.out.low hb3
      clear hb3
      cases hs : shapeB ⟨0, o, [], []⟩ b r with
      | false =>
        go_wp2_with fail
        go_roundw
        case rel => exact ⟨o + 1, by omega, rfl, by go_num, HO3.out⟩
        case measure => simp [intOf]; omega
      | true =>
        have hcut : cutOk b r o := (of_decide_eq_true hs).2
        have hne := HAL.out o hlt hcut
        have hbb : 1 ≤ b ∧ b ≤ 65535 ∧ 0 ≤ r ∧ r ≤ 32 := ⟨hcut.2.2.1, hcut.2.2.2.1, hcut.2.2.2.2.1, hcut.2.2.2.2.2.1⟩
        have hbn : ((l.length : Int) != b - r) = true := by rw [bne_iff_ne]; exact hne
        clear hcut hs hne
        go_wp2_with fail
        go_roundw
        case rel => exact ⟨o + 1, by omega, rfl, by go_num, HO3.out⟩
        case measure => simp [intOf]; omega
    · have hxr := HO.out.rb
      have hxb := HO.out.bb
      have u0 : wr.cell? ⟨w.heap.size, 0, none⟩ = some (.int .i64 0) := by rw [cell_of_row _ _ _ _ _ _ hxr]; rfl
      have fu0 : wr.frozen? ⟨w.heap.size, 0, none⟩ = false := by simp [World.frozen?, hxr]
      have u1 : wr.cell? ⟨w.heap.size, 1, none⟩ = some (.int .i64 0) := by rw [cell_of_row _ _ _ _ _ _ hxr]; rfl
      have fu1 : wr.frozen? ⟨w.heap.size, 1, none⟩ = false := by simp [World.frozen?, hxr]
      have u2 : wr.cell? ⟨w.heap.size, 2, none⟩ = some (.slice none 0 0) := by rw [cell_of_row _ _ _ _ _ _ hxr]; rfl
      have fu2 : wr.frozen? ⟨w.heap.size, 2, none⟩ = false := by simp [World.frozen?, hxr]
      have u3 : wr.cell? ⟨w.heap.size, 3, none⟩ = some (.slice none 0 0) := by rw [cell_of_row _ _ _ _ _ _ hxr]; rfl
      have fu3 : wr.frozen? ⟨w.heap.size, 3, none⟩ = false := by simp [World.frozen?, hxr]
      have v0 : wr.cell? ⟨w.heap.size + 1, 0, none⟩ = some (.int .i64 0) := by rw [cell_of_row _ _ _ _ _ _ hxb]; rfl
      have fv0 : wr.frozen? ⟨w.heap.size + 1, 0, none⟩ = false := by simp [World.frozen?, hxb]
      have v1 : wr.cell? ⟨w.heap.size + 1, 1, none⟩ = some (.int .i64 0) := by rw [cell_of_row _ _ _ _ _ _ hxb]; rfl
      have fv1 : wr.frozen? ⟨w.heap.size + 1, 1, none⟩ = false := by simp [World.frozen?, hxb]
      have v2 : wr.cell? ⟨w.heap.size + 1, 2, none⟩ = some (.slice none 0 0) := by rw [cell_of_row _ _ _ _ _ _ hxb]; rfl
      have fv2 : wr.frozen? ⟨w.heap.size + 1, 2, none⟩ = false := by simp [World.frozen?, hxb]
      have v3 : wr.cell? ⟨w.heap.size + 1, 3, none⟩ = some (.slice none 0 0) := by rw [cell_of_row _ _ _ _ _ _ hxb]; rfl
      have fv3 : wr.frozen? ⟨w.heap.size + 1, 3, none⟩ = false := by simp [World.frozen?, hxb]

      clear hxr hxb
      go_wp2_with fail
      generalize hwf : World.setCell _ _ _ = wf
      have hrow : wf.heap[w.heap.size]? = some (.cells #[.int .i64 0, .int .i64 0, .slice none 0 0, .slice none 0 0] 24 (0, 0)) := by rw [← hwf]; exact set4_a _ _ _ _ _ HO.out.rb
      have hbel : Below w.heap.size w wf := by rw [← hwf]; exact (((HO.out.below.setCell (Nat.le_refl _) _).setCell (Nat.le_refl _) _).setCell (Nat.le_refl _) _).setCell (Nat.le_refl _) _
      refine bodyPost_ret (v := .tuple #[.agg #[.int .i64 0, .int .i64 0, .slice none 0 0, .slice none 0 0], .int .i64 (-1)]) ?_ rfl ⟨rfl, hbel⟩
      rw [results_two rfl]
      have hld := run_loadVar_row (P := Try.prog) (wf) (w.heap.size) 24 24 #[.int .i64 0, .int .i64 0, .slice none 0 0, .slice none 0 0] (0, 0) _ hrow Try.underlying24 rfl info_Rice
      simp [asAddr, Result.andThen, hld]

def Ks (F : Nat → Nat) : Nat → Value → Value → Prop
  | 0, a, b => a = .int .i64 (-1) ∧ b = .int .i64 0
  | m + 1, a, b => a = .int .i64 (F (bestK F m) : Int) ∧ b = .int .i64 (bestK F m : Int)
/-- The best of the first n orders. -/
def Bs (w : World) (l : List Int) (b r : Nat) : Nat → Value → World → Prop
  | 0, s, X => s = .int .i64 (-1) ∧ OB w #[.int .i64 0, .int .i64 0, .slice none 0 0, .slice none 0 0] X
  | m + 1, s, X => s = .int .i64 (ordS l b r (bestK (ordS l b r) m) : Int) ∧ ∃ pa pc ea ec, OB w (riceC (bestRc l b r (bestK (ordS l b r) m)) pa pc ea ec) X ∧ RcAt X (bestRc l b r (bestK (ordS l b r) m)) pa ea ∧ (∀ g, blockOf pa = some g → w.heap.size + 1 < g) ∧ (∀ g, blockOf ea = some g → w.heap.size + 1 < g)
theorem Bs.low {w : World} {l : List Int} {b r n : Nat} {s : Value} {X X' : World} (h : Bs w l b r n s X) (hb : Below X.heap.size X X') : Bs w l b r n s X' := by
  cases n with
  | zero => exact ⟨h.1, h.2.low hb⟩
  | succ m =>
    obtain ⟨h1, pa, pc, ea, ec, h2, h3, h4, h5⟩ := h
    exact ⟨h1, pa, pc, ea, ec, h2.low hb, h3.below hb, h4, h5⟩
theorem Bs.below {w : World} {l : List Int} {b r n : Nat} {s : Value} {X : World} (h : Bs w l b r n s X) : Below w.heap.size w X := by
  cases n with
  | zero => exact h.2.below
  | succ m => obtain ⟨h1, pa, pc, ea, ec, h2, _⟩ := h; exact h2.below
theorem Bs.lt {w : World} {l : List Int} {b r n : Nat} {s : Value} {X : World} (h : Bs w l b r n s X) : w.heap.size + 1 < X.heap.size := by
  cases n with
  | zero => exact h.2.lt
  | succ m => obtain ⟨h1, pa, pc, ea, ec, h2, _⟩ := h; exact h2.lt
theorem Two.new (w : World) (o : Int) : Two (fun i => w.heap.size ≤ i) w.heap.size w 0 o (.slice none 0 0) (.slice none 0 0) (.slice none 0 0) (.slice none 0 0) [] [] (w.alloc (.cells #[.int .i64 0, .int .i64 o, .slice none 0 0, .slice none 0 0] 24)) :=
  ⟨fun i hi => hi, Stays.of_below ((Below.refl _ _).alloc (Nat.le_refl _) _) _, heap_alloc_new _ _, World.ownsRow_nil _ _ _ _, World.ownsRow_nil _ _ _ _, fun g hg => by cases hg⟩
theorem Two.bel {w X : World} {mm oo : Int} {b2 b3 vP vE : Value} {P E : List Int} (h : Two (fun i => w.heap.size ≤ i) w.heap.size w mm oo b2 b3 vP vE P E X) : Below w.heap.size w X :=
  h.fr.below (Nat.le_refl _) (fun i hi hs => by have : w.heap.size ≤ i := hs; omega)

theorem int_info : ∃ i, Try.prog.info? 3 = some i ∧ i.zero = some (.int .i64 0) ∧ i.size = 1 ∧ i.bytes = 8 := by
  have h := info3'
  cases hq : Try.prog.info? 3 with
  | none => rw [hq] at h; cases h
  | some i =>
    rw [hq] at h
    simp only [Option.map_some, Option.some.injEq, Prod.mk.injEq] at h
    exact ⟨i, rfl, h.1, h.2.1, h.2.2⟩
theorem undI3 : Try.prog.underlying 22 = some (.slice 3) := by kernel_rfl
theorem Bs.ways {w : World} {l : List Int} {b r o : Nat} {s : Value} {X : World} (h : Bs w l b r o s X) : (o = 0 ∧ s = .int .i64 (-1)) ∨ (∃ m, o = m + 1 ∧ s = .int .i64 (ordS l b r (bestK (ordS l b r) m) : Int)) := by
  cases o with
  | zero => exact Or.inl ⟨rfl, h.1⟩
  | succ m => exact Or.inr ⟨m, rfl, h.1⟩
theorem Bs.box {w : World} {l : List Int} {b r o : Nat} {s : Value} {X : World} (h : Bs w l b r o s X) : ∃ a0 a1 a2 a3, OB w #[a0, a1, a2, a3] X := by
  cases o with
  | zero => exact ⟨_, _, _, _, h.2⟩
  | succ m => obtain ⟨h1, pa, pc, ea, ec, h2, _⟩ := h; exact ⟨_, _, _, _, h2⟩
theorem Bs.skip {w : World} {l : List Int} {b r m : Nat} {s : Value} {X : World} (h : Bs w l b r (m + 1) s X) (hk : bestK (ordS l b r) (m + 1) = bestK (ordS l b r) m) : Bs w l b r (m + 1 + 1) s X := by
  obtain ⟨h1, pa, pc, ea, ec, h2⟩ := h
  exact ⟨by rw [hk]; exact h1, pa, pc, ea, ec, by rw [hk]; exact h2⟩
theorem Bs.take {w : World} {l : List Int} {b r o : Nat} {X : World} {pa ea : Option Addr} {pc ec : Nat} (hk : bestK (ordS l b r) o = o) (h1 : OB w (riceC (bestRc l b r o) pa pc ea ec) X) (h2 : RcAt X (bestRc l b r o) pa ea) (h3 : ∀ g, blockOf pa = some g → w.heap.size + 1 < g) (h4 : ∀ g, blockOf ea = some g → w.heap.size + 1 < g) : Bs w l b r (o + 1) (.int .i64 (ordS l b r o : Int)) X := by
  exact ⟨by rw [hk], pa, pc, ea, ec, by rw [hk]; exact ⟨h1, h2, h3, h4⟩⟩

theorem ordS_le (l : List Int) (hs : ShX l) (b r o : Nat) (ho : o ≤ 4) : ordS l b r o ≤ 17000000000 := by
  have h16 : 2 ^ o ≤ 16 := Nat.pow_le_pow_right (by decide) ho
  have e2 := chS_congr (capF (ordF l b r o)) (ordF l b r o) (2 ^ o) (fun i k hk => cap_eq _ i k hk)
  have := chS_le (capF (ordF l b r o)) (fun i k => by
    unfold capF; split
    · rename_i hk; exact Nat.le_trans (ordF_le l hs b r o i k hk) (by decide)
    · omega) (2 ^ o)
  unfold ordS
  rw [← e2]
  omega
theorem set4_o {wx : World} (n : Nat) (v0 v1 v2 v3 : Value) : Stays (only n) wx ((((wx.setCell ⟨n, 0, none⟩ v0).setCell ⟨n, 1, none⟩ v1).setCell ⟨n, 2, none⟩ v2).setCell ⟨n, 3, none⟩ v3) :=
  ((((Stays.refl (only n) wx).setCell ⟨n, 0, none⟩ v0 (Or.inl rfl)).setCell ⟨n, 1, none⟩ v1 (Or.inl rfl)).setCell ⟨n, 2, none⟩ v2 (Or.inl rfl)).setCell ⟨n, 3, none⟩ v3 (Or.inl rfl)
theorem Bs.next {w wo X : World} {l : List Int} {b r o : Nat} {s : Value} {pa ea : Option Addr} {pc ec : Nat} (hB : Bs w l b r o s wo) (ho : o ≤ 4)
    (hT : Two (fun i => wo.heap.size ≤ i) wo.heap.size wo 0 (o : Int) (.slice pa (chP (ordF l b r o) (2 ^ o)).length pc) (.slice ea (chE (2 ^ o)).length ec) (.slice pa (chP (ordF l b r o) (2 ^ o)).length pc) (.slice ea (chE (2 ^ o)).length ec) (chP (ordF l b r o) (2 ^ o)) (chE (2 ^ o)) X) (hk : bestK (ordS l b r) o = o) :
    Bs w l b r (o + 1) (.int .i64 (ordS l b r o : Int)) ((((X.setCell ⟨w.heap.size + 1, 0, none⟩ (.int .i64 0)).setCell ⟨w.heap.size + 1, 1, none⟩ (.int .i64 (o : Int))).setCell ⟨w.heap.size + 1, 2, none⟩ (.slice pa (chP (ordF l b r o) (2 ^ o)).length pc)).setCell ⟨w.heap.size + 1, 3, none⟩ (.slice ea (chE (2 ^ o)).length ec)) := by
  obtain ⟨a0, a1, a2, a3, hOB⟩ := (hB.low hT.bel).box
  have hlt := hB.lt
  have h16 : 2 ^ o ≤ 16 := Nat.pow_le_pow_right (by decide) ho
  have hst := set4_o (wx := X) (w.heap.size + 1)
  have hpb : ∀ g, blockOf pa = some g → w.heap.size + 1 < g := fun g hg => by
    have := (hT.oP.lt g (by cases pa with | none => cases hg | some a => exact hg)).1
    omega
  have heb : ∀ g, blockOf ea = some g → w.heap.size + 1 < g := fun g hg => by
    have := (hT.oE.lt g (by cases ea with | none => cases hg | some a => exact hg)).1
    omega
  have hP := own_ints hT.oP (by rw [chP_len]; omega) (fun n hn => by
    unfold chP at hn
    obtain ⟨i, _, rfl⟩ := List.mem_map.1 hn
    have := bestK_le (ordF l b r o i) 14
    omega)
  have hE := own_ints hT.oE (by rw [chE_len]; omega) (fun n hn => by
    unfold chE at hn
    rw [(List.mem_replicate.1 hn).2]; omega)
  refine Bs.take (pc := pc) (ec := ec) hk ⟨?_, ?_, ?_⟩ ⟨hP.stays (hst _ _ _ _) (fun g hg e => by have := hpb g hg; unfold only at e; omega), hE.stays (hst _ _ _ _) (fun g hg e => by have := heb g hg; unfold only at e; omega), ?_, ?_, ?_, ?_⟩ hpb heb
  · rw [set4_d _ _ _ _ _ _ (by omega)]; exact hOB.rb
  · exact set4_a _ _ _ _ _ hOB.bb
  · exact (((hOB.below.setCell (Nat.le_succ _) _).setCell (Nat.le_succ _) _).setCell (Nat.le_succ _) _).setCell (Nat.le_succ _) _
  · show (-9223372036854775808 : Int) ≤ 0; omega
  · show (0 : Int) ≤ 9223372036854775807; omega
  · show (-9223372036854775808 : Int) ≤ (o : Int); omega
  · show (o : Int) ≤ 9223372036854775807; omega
set_option maxRecDepth 20000 in
set_option maxHeartbeats 12000000 in
theorem xbest_main (b q r : Nat) (hC : Cut b q r) (hq4 : q ≤ 4) (hall : ∀ o' : Nat, q < o' → o' ≤ 4 → ¬ cutOk b r o') (l : List Int) (hs : ShX l) (lo : Option Addr) (cap : Nat) (hc : l.length ≤ cap) (h0 : lo = none → cap = 0) (w : World) (hl : IntsAt w lo l) (hn : l.length = b - r) :
    Calls Try.prog 27 #[.int .i64 (b : Int), .int .i64 (r : Int), .slice lo l.length cap] w fun en w' => ∃ pa pc ea ec, en = .returned (.tuple #[riceV (bestRc l b r (bestK (ordS l b r) q)) pa pc ea ec, .int .i64 (ordS l b r (bestK (ordS l b r) q) : Int)]) ∧ RcAt w' (bestRc l b r (bestK (ordS l b r) q)) pa ea ∧ Below w.heap.size w w' := by
  obtain ⟨i3, h3a, h3b, h3c, h3d⟩ := int_info
  have KS : Hid (∀ (o : Nat) (B : Bool) wx, shapeB ⟨0, o, [], []⟩ b r = B → Calls Try.prog 40 #[.agg #[.int .i64 0, .int .i64 (o : Int), .slice none 0 0, .slice none 0 0], .int .i64 (b : Int), .int .i64 (r : Int)] wx fun en w' => en = .returned (.bool B) ∧ Below wx.heap.size wx w') := fun o B wx hB => by rw [← hB]; exact xshape_spec ⟨0, o, [], []⟩ b r none 0 none 0 wx
  have HSY : Hid (∀ o : Nat, o ≤ q → shapeB ⟨0, o, [], []⟩ b r = true) := fun o ho => decide_eq_true ⟨⟨Int.le_refl _, (show (0 : Int) ≤ 1 by decide)⟩, (hC.to o ho).ok⟩
  have HSN : Hid (∀ o : Nat, o ≤ 4 → ¬ o ≤ q → shapeB ⟨0, o, [], []⟩ b r = false) := fun o ho hq => decide_eq_false (fun h => hall o (by omega) ho h.2)
  have HCT : Hid (∀ o : Nat, o ≤ q → Cut b o r) := fun o ho => hC.to o ho
  have HSX : Hid (ShX l) := hs
  have HLI : Hid (IntsAt w lo l) := hl
  have hl5 := hs.2
  have hb2 := hC.b2
  have hr2 := hC.r2
  have hrb := hC.rb
  have hbn : ((l.length : Int) != (b : Int) - (r : Int)) = false := by rw [bne_eq_false_iff_eq]; omega
  have HN : Hid (l.length = b - r) := hn
  have HOB : Hid (OB w #[.int .i64 0, .int .i64 0, .slice none 0 0, .slice none 0 0] ((w.alloc (.cells #[.int .i64 0, .int .i64 0, .slice none 0 0, .slice none 0 0] 24)).alloc (.cells #[.int .i64 0, .int .i64 0, .slice none 0 0, .slice none 0 0] 24))) := OB.new w
  clear hC hall hs hl hn
  go_enter Try.func27, Try.ntmps27
  go_wp2_with fail
  generalize hwa : World.alloc _ _ = wa at *
  clear hwa
  go_loopw [9, 10] (fun s9 s10 wr => ∃ o : Nat, o ≤ 5 ∧ s10 = .int .i64 (o : Int) ∧ Bs w l b r (min o (q + 1)) s9 wr) (fun _ s10 _ => 5 - (intOf s10).toNat)
  case atStart => exact ⟨0, by omega, rfl, by rw [Nat.zero_min]; exact ⟨rfl, HOB.out⟩⟩
  case round =>
    clear HOB
    obtain ⟨wo, hwo⟩ : ∃ wo, wo = wr := ⟨_, rfl⟩
    subst hwo
    obtain ⟨o, ho, rfl, hob⟩ := hrel
    have HO : Hid (Bs w l b r (min o (q + 1)) u9 wo) := hob
    clear hob
    by_cases hlt : o ≤ 4
    · by_cases hoq : o ≤ q
      · have hmin : min o (q + 1) = o := by omega
        have HMN : Hid (min (o + 1) (q + 1) = o + 1) := by show _ = _; omega
        rw [hmin] at HO
        clear hmin
        have HT2 : Hid (Two (fun i => wo.heap.size ≤ i) wo.heap.size wo 0 (o : Int) (.slice none 0 0) (.slice none 0 0) (.slice none 0 0) (.slice none 0 0) [] [] (wo.alloc (.cells #[.int .i64 0, .int .i64 (o : Int), .slice none 0 0, .slice none 0 0] 24))) := Two.new wo o
        have KSo := fun wx => KS.out o true wx (HSY.out o hoq)
        have hCo := HCT.out o hoq
        have hN16 : 2 ^ o ≤ 16 := Nat.pow_le_pow_right (by decide) hlt
        have hN1 : 1 ≤ 2 ^ o := Nat.pow_pos (by decide)
        have hpow : (2 : Int) ^ o = ((2 ^ o : Nat) : Int) := by simp
        have HSB : Hid (∀ o', o' ≤ 4 → ordS l b r o' ≤ 17000000000) := fun o' ho' => ordS_le l HSX.out b r o' ho'
        have HG : Hid (∀ i k, k ≤ 30 → ordF l b r o i k ≤ 40155000) := fun i k hk => ordF_le l HSX.out b r o i k hk
        have HCS : Hid (∀ i, i ≤ 16 → chS (ordF l b r o) i ≤ 17000000000) := fun i hi => by
          have e2 := chS_congr (capF (ordF l b r o)) (ordF l b r o) i (fun i k hk => cap_eq _ i k hk)
          have := chS_le (capF (ordF l b r o)) (fun i k => by
            unfold capF; split
            · rename_i hk; exact Nat.le_trans (HG.out i k hk) (by decide)
            · omega) i
          rw [← e2]
          omega
        have KP : Hid (∀ (i : Nat) (P E : List Int) pa pc ea ec wx, i < 2 ^ o → Calls Try.prog 36 #[.agg #[.int .i64 0, .int .i64 (o : Int), .slice pa P.length pc, .slice ea E.length ec], .int .i64 (b : Int), .int .i64 (r : Int), .int .i64 (i : Int)] wx fun en w' => en = .returned (.tuple #[.int .i64 (frN b o r i : Int), .int .i64 (frN b o r (i + 1) : Int)]) ∧ Below wx.heap.size wx w') := fun i P E pa pc ea ec wx hi => xpart_spec ⟨0, o, P, E⟩ b o r i hCo rfl hi pa pc ea ec wx
        have HPB : Hid (∀ i, i < 2 ^ o → frN b o r i ≤ frN b o r (i + 1) ∧ frN b o r (i + 1) ≤ l.length ∧ (partN l b o r i).length = frN b o r (i + 1) - frN b o r i) := fun i hi => by
          have h1 := frN_mono b o r i
          have h2 := frN_bound hCo (i + 1) hi
          have h3 := HN.out
          refine ⟨h1, by omega, ?_⟩
          unfold partN
          rw [List.length_take, List.length_drop]
          omega
        have HOS : Hid (ordS l b r o = chS (ordF l b r o) (2 ^ o)) := rfl
        have HRC : Hid (bestRc l b r o = ⟨0, o, chP (ordF l b r o) (2 ^ o), chE (2 ^ o)⟩) := rfl
        have HGD : Hid (∀ i k, ordF l b r o i k = costN (partN l b o r i) k) := fun i k => rfl
        generalize hGG : ordF l b r o = G at *
        have HGE : Hid (ordF l b r o = G) := hGG
        clear hCo hGG
        go_wp2_with fail
        generalize hw2 : World.alloc _ _ = w2 at *
        clear hw2
        refine (KSo w2).mono ?_
        rintro e w3 ⟨rfl, hb3⟩
        have HT3 : Hid (Two (fun i => wo.heap.size ≤ i) wo.heap.size wo 0 (o : Int) (.slice none 0 0) (.slice none 0 0) (.slice none 0 0) (.slice none 0 0) [] [] w3) := HT2.out.low hb3
        clear hb3 HT2 KSo
        generalize hNN : 2 ^ o = N at *
        have HNN : Hid (2 ^ o = N) := hNN
        clear hNN
        go_wp2_with fail
        go_loopw [12, 13] (fun s12 s13 wy => ∃ (i : Nat) (vP vE : Value), i ≤ N ∧ s12 = .int .i64 (chS G i : Int) ∧ s13 = .int .i64 (i : Int) ∧ Two (fun i => wo.heap.size ≤ i) wo.heap.size wo 0 (o : Int) vP vE vP vE (chP G i) (chE i) wy) (fun _ s13 _ => N - (intOf s13).toNat)
        case atStart => exact ⟨0, _, _, Nat.zero_le _, rfl, rfl, HT3.out⟩
        case round =>
          clear HT3
          obtain ⟨i, vP, vE, hi, rfl, rfl, htw⟩ := hrel
          obtain ⟨pa, pc, ea, ec, rfl, rfl⟩ := htw.shape
          have HT : Hid (Two (fun i => wo.heap.size ≤ i) wo.heap.size wo 0 (o : Int) (.slice pa (chP G i).length pc) (.slice ea (chE i).length ec) (.slice pa (chP G i).length pc) (.slice ea (chE i).length ec) (chP G i) (chE i) wr) := htw
          clear htw
          have hcs := HCS.out i (by omega)
          obtain ⟨y0, y1, y2, y3⟩ := HT.out.cells
          by_cases hil : i < N
          · --@A
            have kp := KP.out i (chP G i) (chE i) pa pc ea ec wr hil
            obtain ⟨hft, htl, hXl⟩ := HPB.out i hil
            obtain ⟨xo, hsl, hxo⟩ := slice_ints2 lo l.length cap (frN b o r i) (frN b o r (i + 1)) hft (by omega) h0
            have HX : Hid (IntsAt w xo (partN l b o r i)) := by
              have hh := HLI.out.part (frN b o r i) (frN b o r (i + 1) - frN b o r i) (by omega) xo (fun bb off e hp => hxo bb off e (by omega))
              exact hh
            have HXS : Hid (ShX (partN l b o r i)) := HSX.out.part b o r i
            have HGI : Hid (∀ k, G i k = costN (partN l b o r i) k) := fun k => HGD.out i k
            have HGB : Hid (∀ k, k ≤ 14 → G i k ≤ 40155000) := fun k hk => HG.out i k (by omega)
            have HCN : Hid (chS G (i + 1) = chS G i + (4 + G i (bestK (G i) 14))) := rfl
            generalize frN b o r i = f at *
            generalize frN b o r (i + 1) = tt at *
            generalize partN l b o r i = X at *
            have KC : Hid (∀ (k : Nat) wx, k ≤ 14 → Hid (Two (fun i => wo.heap.size ≤ i) wo.heap.size wo 0 (o : Int) (.slice pa (chP G i).length pc) (.slice ea (chE i).length ec) (.slice pa (chP G i).length pc) (.slice ea (chE i).length ec) (chP G i) (chE i) wx) → Calls Try.prog 29 #[.slice xo (tt - f) (cap - f), .int .i64 (k : Int)] wx fun e w' => e = .returned (.int .i64 (G i k : Int)) ∧ Hid (Two (fun i => wo.heap.size ≤ i) wo.heap.size wo 0 (o : Int) (.slice pa (chP G i).length pc) (.slice ea (chE i).length ec) (.slice pa (chP G i).length pc) (.slice ea (chE i).length ec) (chP G i) (chE i) w')) := fun k wx hk hh => by
              have hc := xcost_spec X k xo (cap - f) HXS.out wx (HX.out.below (HO.out.below.trans (hh.out.bel.mono HO.out.below.size)))
              rw [hXl] at hc
              refine hc.mono fun e w' hx => ?_
              obtain ⟨h1, n, rfl⟩ := hx
              refine ⟨?_, hh.out.low (below_drewN _ _)⟩
              rw [h1]
              unfold costI
              rw [if_neg (by omega), HGI.out k]
              rfl
            have hsl' := hsl
            clear hsl hxo hXl HXS HX HGI
            go_wp2_with fail
            refine kp.mono ?_
            rintro e w4 ⟨rfl, hb4⟩
            have HT4 : Hid (Two (fun i => wo.heap.size ≤ i) wo.heap.size wo 0 (o : Int) (.slice pa (chP G i).length pc) (.slice ea (chE i).length ec) (.slice pa (chP G i).length pc) (.slice ea (chE i).length ec) (chP G i) (chE i) w4) := HT.out.low hb4
            clear hb4 kp HT y0 y1 y2 y3
            generalize hGi : G i = F at *
            go_wp2_with fail
            go_loopw [16, 17, 18] (fun s16 s17 s18 wy => ∃ kk : Nat, kk ≤ 15 ∧ s18 = .int .i64 (kk : Int) ∧ Ks F kk s16 s17 ∧ Two (fun i => wo.heap.size ≤ i) wo.heap.size wo 0 (o : Int) (.slice pa (chP G i).length pc) (.slice ea (chE i).length ec) (.slice pa (chP G i).length pc) (.slice ea (chE i).length ec) (chP G i) (chE i) wy) (fun _ _ s18 _ => 15 - (intOf s18).toNat)
            case atStart => exact ⟨0, by omega, rfl, ⟨rfl, rfl⟩, HT4.out⟩
            case round =>
              clear HT4
              obtain ⟨kk, hkk, rfl, hks, htw⟩ := hrel
              have HT : Hid (Two (fun i => wo.heap.size ≤ i) wo.heap.size wo 0 (o : Int) (.slice pa (chP G i).length pc) (.slice ea (chE i).length ec) (.slice pa (chP G i).length pc) (.slice ea (chE i).length ec) (chP G i) (chE i) wr) := htw
              clear htw
              by_cases hk14 : kk ≤ 14
              · have kc := KC.out kk wr hk14 HT
                have hg := HGB.out kk hk14
                have hwc := hsl' wr
                rcases Nat.eq_zero_or_pos kk with hz | hz
                · subst hz
                  obtain ⟨rfl, rfl⟩ := hks
                  generalize hFk : F 0 = v at *
                  have HFK : Hid (Ks F 1 (.int .i64 (v : Int)) (.int .i64 0)) := by rw [← hFk]; exact ⟨rfl, rfl⟩
                  go_wp2_with fail
                  refine kc.mono ?_
                  rintro e w5 ⟨rfl, h5⟩
                  go_wp2_with fail
                  go_roundw
                  case rel => exact ⟨1, by omega, by go_num, HFK.out, h5.out⟩
                  case measure => simp [intOf]
                · obtain ⟨m, hm⟩ : ∃ m, kk = m + 1 := ⟨kk - 1, by omega⟩
                  have HM : Hid (kk = m + 1) := hm
                  have hks2 : Ks F (m + 1) u16 u17 := by rw [← hm]; exact hks
                  obtain ⟨rfl, rfl⟩ := hks2
                  clear hks
                  have HBK : Hid (bestK F kk = if F kk < F (bestK F m) then kk else bestK F m) := by show _ = _; rw [hm]; rfl
                  have HKN : Hid (∀ a b, a = .int .i64 (F (bestK F kk) : Int) → b = .int .i64 (bestK F kk : Int) → Ks F (kk + 1) a b) := fun a b h1 h2 => ⟨h1, h2⟩
                  have hbk := HGB.out (bestK F m) (by have := bestK_le F m; omega)
                  generalize bestK F m = c at *
                  generalize hFc : F c = vc at *
                  generalize hFk : F kk = v at *
                  clear hm
                  by_cases hlv : v < vc
                  · have HKX : Hid (Ks F (kk + 1) (.int .i64 (v : Int)) (.int .i64 (kk : Int))) := by
                      have e := HBK.out
                      rw [if_pos hlv] at e
                      exact HKN.out _ _ (by rw [e, hFk]) (by rw [e])
                    clear HBK HKN
                    go_wp2_with fail
                    refine kc.mono ?_
                    rintro e w5 ⟨rfl, h5⟩
                    go_wp2_with fail
                    go_roundw
                    case rel => exact ⟨kk + 1, by omega, by go_num, HKX.out, h5.out⟩
                    case measure => simp [intOf]; omega
                  · have HKX : Hid (Ks F (kk + 1) (.int .i64 (vc : Int)) (.int .i64 (c : Int))) := by
                      have e := HBK.out
                      rw [if_neg hlv] at e
                      exact HKN.out _ _ (by rw [e, hFc]) (by rw [e])
                    clear HBK HKN
                    go_wp2_with fail
                    refine kc.mono ?_
                    rintro e w5 ⟨rfl, h5⟩
                    go_wp2_with fail
                    go_roundw
                    case rel => exact ⟨kk + 1, by omega, by go_num, HKX.out, h5.out⟩
                    case measure => simp [intOf]; omega
              · have h15 : kk = 15 := by omega
                subst h15
                obtain ⟨rfl, rfl⟩ := hks
                have hbk := HGB.out (bestK F 14) (bestK_le F 14)
                have HPS : Hid (chP G (i + 1) = chP G i ++ [(bestK F 14 : Int)]) := by show _ = _; rw [← hGi]; exact chP_succ G i
                have HES : Hid (chE (i + 1) = chE i ++ [-1]) := chE_succ i
                rw [← hGi] at HCN
                have HCM : Hid (chS G (i + 1) = chS G i + (4 + F (bestK F 14))) := by show _ = _; rw [← hGi]; rfl
                have hLP : (chP G i).length = i := chP_len G i
                have hLE : (chE i).length = i := chE_len i
                have hi17 : i ≤ 16 := by omega
                have HLP : Hid ((chP G i).length = i) := hLP
                have HLE : Hid ((chE i).length = i) := hLE
                have hlp : (chP G i).length ≤ 100 := by omega
                have hle : (chE i).length ≤ 100 := by omega
                clear hLP hLE HCN KC
                generalize hFv : F (bestK F 14) = v at *
                generalize bestK F 14 = kb at *
                obtain ⟨wz, hwz⟩ : ∃ wz, wz = wr := ⟨_, rfl⟩
                subst hwz
                have HTD : Hid (Two (fun i => wo.heap.size ≤ i) wo.heap.size wo 0 (o : Int) (.slice pa (chP G i).length pc) (.slice ea (chE i).length ec) (.slice pa (chP G i).length pc) (.slice ea (chE i).length ec) (chP G i) (chE i) wz.drew) := HT.out.drew
                obtain ⟨y0, y1, y2, y3⟩ := HT.out.cells
                have HCE : Hid (∀ b2 b3 vP vE P E wx, Two (fun i => wo.heap.size ≤ i) wo.heap.size wo 0 (o : Int) b2 b3 vP vE P E wx → wx.cell? ⟨wo.heap.size, 0, none⟩ = some (.int .i64 0) ∧ wx.cell? ⟨wo.heap.size, 1, none⟩ = some (.int .i64 (o : Int)) ∧ wx.cell? ⟨wo.heap.size, 2, none⟩ = some b2 ∧ wx.cell? ⟨wo.heap.size, 3, none⟩ = some b3) := fun _ _ _ _ _ _ _ h => h.cells
                go_wp2_with fail
                refine wp_region_noPanic ?_
                refine Till.begin (n := 10) (S := fun wx => wx.cell? ⟨wo.heap.size, 2, none⟩ = some (.slice pa (chP G i).length pc) ∧ wx.cell? ⟨wo.heap.size, 3, none⟩ = some (.slice ea (chE i).length ec)) (by kernel_rfl) (HCE.out _ _ _ _ _ _ _ HTD.out).2.2 (fun hS => ?_)
                refine Till.take (i := 0) (v := .pointer (some ⟨wo.heap.size, 2, none⟩)) rfl (by kernel_rfl) (by kernel_rfl) (by kernel_rfl) (fun _ _ _ h => h) (by decide) (Waits.of (by kernel_rfl)) (by kernel_rfl) (Or.inl ⟨by rfl, fun w hSw => by (obtain ⟨s2, s3⟩ := hSw; go_simp)⟩) hS ?_
                try simp only [Act.put, List.getElem_toArray, List.getElem_cons_succ, List.getElem_cons_zero, List.setIfInBounds_toArray, List.set_cons_zero, List.set_cons_succ]
                refine Till.take (i := 1) (v := (.slice pa (chP G i).length pc)) rfl (by kernel_rfl) (by kernel_rfl) (by kernel_rfl) (fun _ _ _ h => h) (by decide) (Waits.of (by kernel_rfl)) (by kernel_rfl) (Or.inl ⟨by rfl, fun w hSw => by (obtain ⟨s2, s3⟩ := hSw; go_simp)⟩) hS ?_
                try simp only [Act.put, List.getElem_toArray, List.getElem_cons_succ, List.getElem_cons_zero, List.setIfInBounds_toArray, List.set_cons_zero, List.set_cons_succ]
                refine Till.take (i := 2) (v := .int .i64 (kb : Int)) rfl (by kernel_rfl) (by kernel_rfl) (by kernel_rfl) (fun _ _ _ h => h) (by decide) (Waits.of (by kernel_rfl)) (by kernel_rfl) (Or.inl ⟨by rfl, fun w hSw => by (obtain ⟨s2, s3⟩ := hSw; go_simp)⟩) hS ?_
                try simp only [Act.put, List.getElem_toArray, List.getElem_cons_succ, List.getElem_cons_zero, List.setIfInBounds_toArray, List.set_cons_zero, List.set_cons_succ]
                refine Till.take (i := 5) (v := .pointer (some ⟨wo.heap.size, 3, none⟩)) rfl (by kernel_rfl) (by kernel_rfl) (by kernel_rfl) (fun _ _ _ h => h) (by decide) (Waits.of (by kernel_rfl)) (by kernel_rfl) (Or.inl ⟨by rfl, fun w hSw => by (obtain ⟨s2, s3⟩ := hSw; go_simp)⟩) hS ?_
                try simp only [Act.put, List.getElem_toArray, List.getElem_cons_succ, List.getElem_cons_zero, List.setIfInBounds_toArray, List.set_cons_zero, List.set_cons_succ]
                refine Till.take (i := 6) (v := (.slice ea (chE i).length ec)) rfl (by kernel_rfl) (by kernel_rfl) (by kernel_rfl) (fun _ _ _ h => h) (by decide) (Waits.of (by kernel_rfl)) (by kernel_rfl) (Or.inl ⟨by rfl, fun w hSw => by (obtain ⟨s2, s3⟩ := hSw; go_simp)⟩) hS ?_
                try simp only [Act.put, List.getElem_toArray, List.getElem_cons_succ, List.getElem_cons_zero, List.setIfInBounds_toArray, List.set_cons_zero, List.set_cons_succ]
                refine Till.ready (rs := [3, 7]) (by kernel_rfl) (by simp) ?_
                refine Ups.cons rfl (fun K hK => ?_) ?_
                · go_simp
                  have hS3 := (HCE.out _ _ _ _ _ _ _ (HTD.out.alloc (.cells #[.int .i64 (kb : Int)] 3))).2.2
                  refine hK.out _ _ (fun _ => hS3) ?_
                  clear hK K
                  try simp only [Act.put, List.getElem_toArray, List.getElem_cons_succ, List.getElem_cons_zero, List.setIfInBounds_toArray, List.set_cons_zero, List.set_cons_succ]
                  refine Till.ready (rs := [4, 7]) (by kernel_rfl) (by simp) ?_
                  refine Ups.cons rfl (fun K hK => ?_) ?_
                  · refine step_append_lies _ (by rfl) _ _ _ (by rfl) (wo.heap.size + 1) 3 i3 (.int .i64 0) 1 8 undI3 h3a h3b h3c h3d rfl (by omega) (.slice pa (chP G i).length pc) (chP G i).length (intsC (chP G i)) (by rfl) ((HTD.out.alloc (.cells #[.int .i64 (kb : Int)] 3)).oP) ⟨wz.heap.size, 0, none⟩ 1 1 [.int .i64 (kb : Int)] (by rfl) (by rfl) (World.news_of_block (cs := #[.int .i64 (kb : Int)]) (t := 3) (fr := (0, 0)) (tmp_new wz.drew _)) (one_int _ _) (by omega) (by unfold maxLen; omega) (by omega) ((HTD.out.alloc (.cells #[.int .i64 (kb : Int)] 3)).lt) _ rfl ?_
                    intro gP cP wP ownP groP hatP hltP
                    have HTP : Hid (Two (fun i => wo.heap.size ≤ i) wo.heap.size wo 0 (o : Int) (.slice pa (chP G i).length pc) (.slice ea (chE i).length ec) (.slice (some ⟨gP, 0, none⟩) ((chP G i).length + 1) cP) (.slice ea (chE i).length ec) ((chP G i) ++ [(kb : Int)]) (chE i) wP) := (HTD.out.alloc (.cells #[.int .i64 (kb : Int)] 3)).pushP ownP groP hatP
                    have hS4 := (HCE.out _ _ _ _ _ _ _ HTP.out).2.2
                    refine hK.out _ _ (fun _ => hS4) ?_
                    clear hK K
                    try simp only [Act.put, List.getElem_toArray, List.getElem_cons_succ, List.getElem_cons_zero, List.setIfInBounds_toArray, List.set_cons_zero, List.set_cons_succ]
                    refine Till.take (i := 9) (v := .pointer (some ⟨wo.heap.size, 2, none⟩)) rfl (by kernel_rfl) (by kernel_rfl) (by kernel_rfl) (fun _ _ _ h => h) (by decide) (Waits.of (by kernel_rfl)) (by kernel_rfl) (Or.inl ⟨by rfl, fun w hSw => by (obtain ⟨s2, s3⟩ := hSw; go_simp)⟩) hS4 ?_
                    try simp only [Act.put, List.getElem_toArray, List.getElem_cons_succ, List.getElem_cons_zero, List.setIfInBounds_toArray, List.set_cons_zero, List.set_cons_succ]
                    refine Till.ready (rs := [7]) (by kernel_rfl) (by simp) ?_
                    refine Ups.cons rfl (fun K hK => ?_) Ups.nil
                    go_simp
                    have hS7 := (HCE.out _ _ _ _ _ _ _ (HTP.out.alloc (.cells #[.int .i64 (-1)] 3))).2.2
                    refine hK.out _ _ (fun _ => hS7) ?_
                    clear hK K
                    try simp only [Act.put, List.getElem_toArray, List.getElem_cons_succ, List.getElem_cons_zero, List.setIfInBounds_toArray, List.set_cons_zero, List.set_cons_succ]
                    refine Till.ready (rs := [8]) (by kernel_rfl) (by simp) ?_
                    refine Ups.cons rfl (fun K hK => ?_) Ups.nil
                    refine step_append_lies _ (by rfl) _ _ _ (by rfl) (wo.heap.size + 1) 3 i3 (.int .i64 0) 1 8 undI3 h3a h3b h3c h3d rfl (by omega) (.slice ea (chE i).length ec) (chE i).length (intsC (chE i)) (by rfl) ((HTP.out.alloc (.cells #[.int .i64 (-1)] 3)).oE) ⟨wP.heap.size, 0, none⟩ 1 1 [.int .i64 (-1)] (by rfl) (by rfl) (World.news_of_block (cs := #[.int .i64 (-1)]) (t := 3) (fr := (0, 0)) (tmp_new wP _)) (one_int _ _) (by omega) (by unfold maxLen; omega) (by omega) ((HTP.out.alloc (.cells #[.int .i64 (-1)] 3)).lt) _ rfl ?_
                    intro gE cE wE ownE groE hatE hltE
                    have HTE : Hid (Two (fun i => wo.heap.size ≤ i) wo.heap.size wo 0 (o : Int) (.slice pa (chP G i).length pc) (.slice ea (chE i).length ec) (.slice (some ⟨gP, 0, none⟩) ((chP G i).length + 1) cP) (.slice (some ⟨gE, 0, none⟩) ((chE i).length + 1) cE) ((chP G i) ++ [(kb : Int)]) ((chE i) ++ [(-1)]) wE) := (HTP.out.alloc (.cells #[.int .i64 (-1)] 3)).pushE ownE groE hatE
                    have hS8 := (HCE.out _ _ _ _ _ _ _ HTE.out).2.2
                    refine hK.out _ _ (fun _ => hS8) ?_
                    clear hK K
                    try simp only [Act.put, List.getElem_toArray, List.getElem_cons_succ, List.getElem_cons_zero, List.setIfInBounds_toArray, List.set_cons_zero, List.set_cons_succ]
                    clear ownE groE hatE hltE ownP groP hatP hltP
                    obtain ⟨z0, z1, z2, z3⟩ := HTE.out.cells
                    have fz2 := HTE.out.frozen 2
                    have fz3 := HTE.out.frozen 3
                    refine Till.ready (rs := [10]) (by kernel_rfl) (by simp) ?_
                    refine Ups.cons rfl (fun K hK => ?_) Ups.nil
                    go_simp
                    refine hK.out _ _ (fun h => Bool.noConfusion (Eq.trans (Eq.symm h) (by kernel_rfl : _ = true))) ?_
                    clear hK K
                    try simp only [Act.put, List.getElem_toArray, List.getElem_cons_succ, List.getElem_cons_zero, List.setIfInBounds_toArray, List.set_cons_zero, List.set_cons_succ]
                    refine Till.ready (rs := [11]) (by kernel_rfl) (by simp) ?_
                    refine Ups.cons rfl (fun K hK => ?_) Ups.nil
                    go_simp
                    refine hK.out _ _ (fun h => Bool.noConfusion (Eq.trans (Eq.symm h) (by kernel_rfl : _ = true))) ?_
                    clear hK K
                    try simp only [Act.put, List.getElem_toArray, List.getElem_cons_succ, List.getElem_cons_zero, List.setIfInBounds_toArray, List.set_cons_zero, List.set_cons_succ]
                    refine Till.ready (rs := [12]) (by kernel_rfl) (by simp) ?_
                    refine Ups.cons rfl (fun K hK => ?_) Ups.nil
                    go_simp
                    refine hK.out _ _ (fun h => Bool.noConfusion (Eq.trans (Eq.symm h) (by kernel_rfl : _ = true))) ?_
                    clear hK K
                    try simp only [Act.put, List.getElem_toArray, List.getElem_cons_succ, List.getElem_cons_zero, List.setIfInBounds_toArray, List.set_cons_zero, List.set_cons_succ]
                    refine Till.done (by kernel_rfl) ?_
                    clear z0 z1 z2 z3 fz2 fz3
                    refine NoPanic.normal ?_
                    go_wp2_with fail
                    go_roundw
                    case rel => exact ⟨i + 1, _, _, by omega, by rw [HCM.out]; go_num, by go_num, by rw [HPS.out, HES.out]; exact HTE.out.set⟩
                    case measure => simp [intOf]; omega

                  · refine Ups.cons rfl (fun K hK => ?_) Ups.nil
                    go_simp
                    have hS7 := (HCE.out _ _ _ _ _ _ _ ((HTD.out.alloc (.cells #[.int .i64 (kb : Int)] 3)).alloc (.cells #[.int .i64 (-1)] 3))).2.2
                    refine hK.out _ _ (fun _ => hS7) ?_
                    clear hK K
                    try simp only [Act.put, List.getElem_toArray, List.getElem_cons_succ, List.getElem_cons_zero, List.setIfInBounds_toArray, List.set_cons_zero, List.set_cons_succ]
                    refine Till.ready (rs := [4]) (by kernel_rfl) (by simp) ?_
                    refine Ups.cons rfl (fun K hK => ?_) Ups.nil
                    refine step_append_lies _ (by rfl) _ _ _ (by rfl) (wo.heap.size + 1) 3 i3 (.int .i64 0) 1 8 undI3 h3a h3b h3c h3d rfl (by omega) (.slice pa (chP G i).length pc) (chP G i).length (intsC (chP G i)) (by rfl) (((HTD.out.alloc (.cells #[.int .i64 (kb : Int)] 3)).alloc (.cells #[.int .i64 (-1)] 3)).oP) ⟨wz.heap.size, 0, none⟩ 1 1 [.int .i64 (kb : Int)] (by rfl) (by rfl) (World.news_of_block (cs := #[.int .i64 (kb : Int)]) (t := 3) (fr := (0, 0)) (tmp_old wz.drew _ _)) (one_int _ _) (by omega) (by unfold maxLen; omega) (by omega) (((HTD.out.alloc (.cells #[.int .i64 (kb : Int)] 3)).alloc (.cells #[.int .i64 (-1)] 3)).lt) _ rfl ?_
                    intro gP cP wP ownP groP hatP hltP
                    have HTP : Hid (Two (fun i => wo.heap.size ≤ i) wo.heap.size wo 0 (o : Int) (.slice pa (chP G i).length pc) (.slice ea (chE i).length ec) (.slice (some ⟨gP, 0, none⟩) ((chP G i).length + 1) cP) (.slice ea (chE i).length ec) ((chP G i) ++ [(kb : Int)]) (chE i) wP) := ((HTD.out.alloc (.cells #[.int .i64 (kb : Int)] 3)).alloc (.cells #[.int .i64 (-1)] 3)).pushP ownP groP hatP
                    have HTM : Hid (wP.heap[wz.heap.size + 1]? = some (.cells #[.int .i64 (-1)] 3 (0, 0))) := tmp_kept groP (tmp_next wz.drew _ _) (fun e => by have h9 := (HTD.out.oP.lt _ e).2; have h8 : wz.drew.heap.size = wz.heap.size := rfl; omega)
                    have hS4 := (HCE.out _ _ _ _ _ _ _ HTP.out).2.2
                    refine hK.out _ _ (fun _ => hS4) ?_
                    clear hK K
                    try simp only [Act.put, List.getElem_toArray, List.getElem_cons_succ, List.getElem_cons_zero, List.setIfInBounds_toArray, List.set_cons_zero, List.set_cons_succ]
                    refine Till.take (i := 9) (v := .pointer (some ⟨wo.heap.size, 2, none⟩)) rfl (by kernel_rfl) (by kernel_rfl) (by kernel_rfl) (fun _ _ _ h => h) (by decide) (Waits.of (by kernel_rfl)) (by kernel_rfl) (Or.inl ⟨by rfl, fun w hSw => by (obtain ⟨s2, s3⟩ := hSw; go_simp)⟩) hS4 ?_
                    try simp only [Act.put, List.getElem_toArray, List.getElem_cons_succ, List.getElem_cons_zero, List.setIfInBounds_toArray, List.set_cons_zero, List.set_cons_succ]
                    refine Till.ready (rs := [8]) (by kernel_rfl) (by simp) ?_
                    refine Ups.cons rfl (fun K hK => ?_) Ups.nil
                    refine step_append_lies _ (by rfl) _ _ _ (by rfl) (wo.heap.size + 1) 3 i3 (.int .i64 0) 1 8 undI3 h3a h3b h3c h3d rfl (by omega) (.slice ea (chE i).length ec) (chE i).length (intsC (chE i)) (by rfl) HTP.out.oE ⟨wz.heap.size + 1, 0, none⟩ 1 1 [.int .i64 (-1)] (by rfl) (by rfl) (World.news_of_block (cs := #[.int .i64 (-1)]) (t := 3) (fr := (0, 0)) (HTM.out)) (one_int _ _) (by omega) (by unfold maxLen; omega) (by omega) HTP.out.lt _ rfl ?_
                    intro gE cE wE ownE groE hatE hltE
                    have HTE : Hid (Two (fun i => wo.heap.size ≤ i) wo.heap.size wo 0 (o : Int) (.slice pa (chP G i).length pc) (.slice ea (chE i).length ec) (.slice (some ⟨gP, 0, none⟩) ((chP G i).length + 1) cP) (.slice (some ⟨gE, 0, none⟩) ((chE i).length + 1) cE) ((chP G i) ++ [(kb : Int)]) ((chE i) ++ [(-1)]) wE) := HTP.out.pushE ownE groE hatE
                    have hS8 := (HCE.out _ _ _ _ _ _ _ HTE.out).2.2
                    refine hK.out _ _ (fun _ => hS8) ?_
                    clear hK K
                    try simp only [Act.put, List.getElem_toArray, List.getElem_cons_succ, List.getElem_cons_zero, List.setIfInBounds_toArray, List.set_cons_zero, List.set_cons_succ]
                    clear ownE groE hatE hltE ownP groP hatP hltP
                    obtain ⟨z0, z1, z2, z3⟩ := HTE.out.cells
                    have fz2 := HTE.out.frozen 2
                    have fz3 := HTE.out.frozen 3
                    refine Till.ready (rs := [10]) (by kernel_rfl) (by simp) ?_
                    refine Ups.cons rfl (fun K hK => ?_) Ups.nil
                    go_simp
                    refine hK.out _ _ (fun h => Bool.noConfusion (Eq.trans (Eq.symm h) (by kernel_rfl : _ = true))) ?_
                    clear hK K
                    try simp only [Act.put, List.getElem_toArray, List.getElem_cons_succ, List.getElem_cons_zero, List.setIfInBounds_toArray, List.set_cons_zero, List.set_cons_succ]
                    refine Till.ready (rs := [11]) (by kernel_rfl) (by simp) ?_
                    refine Ups.cons rfl (fun K hK => ?_) Ups.nil
                    go_simp
                    refine hK.out _ _ (fun h => Bool.noConfusion (Eq.trans (Eq.symm h) (by kernel_rfl : _ = true))) ?_
                    clear hK K
                    try simp only [Act.put, List.getElem_toArray, List.getElem_cons_succ, List.getElem_cons_zero, List.setIfInBounds_toArray, List.set_cons_zero, List.set_cons_succ]
                    refine Till.ready (rs := [12]) (by kernel_rfl) (by simp) ?_
                    refine Ups.cons rfl (fun K hK => ?_) Ups.nil
                    go_simp
                    refine hK.out _ _ (fun h => Bool.noConfusion (Eq.trans (Eq.symm h) (by kernel_rfl : _ = true))) ?_
                    clear hK K
                    try simp only [Act.put, List.getElem_toArray, List.getElem_cons_succ, List.getElem_cons_zero, List.setIfInBounds_toArray, List.set_cons_zero, List.set_cons_succ]
                    refine Till.done (by kernel_rfl) ?_
                    clear z0 z1 z2 z3 fz2 fz3
                    refine NoPanic.normal ?_
                    go_wp2_with fail
                    go_roundw
                    case rel => exact ⟨i + 1, _, _, by omega, by rw [HCM.out]; go_num, by go_num, by rw [HPS.out, HES.out]; exact HTE.out.set⟩
                    case measure => simp [intOf]; omega


                · refine Ups.cons rfl (fun K hK => ?_) Ups.nil
                  go_simp
                  have hS7 := (HCE.out _ _ _ _ _ _ _ (HTD.out.alloc (.cells #[.int .i64 (-1)] 3))).2.2
                  refine hK.out _ _ (fun _ => hS7) ?_
                  clear hK K
                  try simp only [Act.put, List.getElem_toArray, List.getElem_cons_succ, List.getElem_cons_zero, List.setIfInBounds_toArray, List.set_cons_zero, List.set_cons_succ]
                  refine Till.ready (rs := [3]) (by kernel_rfl) (by simp) ?_
                  refine Ups.cons rfl (fun K hK => ?_) Ups.nil
                  go_simp
                  have hS3 := (HCE.out _ _ _ _ _ _ _ ((HTD.out.alloc (.cells #[.int .i64 (-1)] 3)).alloc (.cells #[.int .i64 (kb : Int)] 3))).2.2
                  refine hK.out _ _ (fun _ => hS3) ?_
                  clear hK K
                  try simp only [Act.put, List.getElem_toArray, List.getElem_cons_succ, List.getElem_cons_zero, List.setIfInBounds_toArray, List.set_cons_zero, List.set_cons_succ]
                  refine Till.ready (rs := [4]) (by kernel_rfl) (by simp) ?_
                  refine Ups.cons rfl (fun K hK => ?_) Ups.nil
                  refine step_append_lies _ (by rfl) _ _ _ (by rfl) (wo.heap.size + 1) 3 i3 (.int .i64 0) 1 8 undI3 h3a h3b h3c h3d rfl (by omega) (.slice pa (chP G i).length pc) (chP G i).length (intsC (chP G i)) (by rfl) (((HTD.out.alloc (.cells #[.int .i64 (-1)] 3)).alloc (.cells #[.int .i64 (kb : Int)] 3)).oP) ⟨wz.heap.size + 1, 0, none⟩ 1 1 [.int .i64 (kb : Int)] (by rfl) (by rfl) (World.news_of_block (cs := #[.int .i64 (kb : Int)]) (t := 3) (fr := (0, 0)) (tmp_next wz.drew _ _)) (one_int _ _) (by omega) (by unfold maxLen; omega) (by omega) (((HTD.out.alloc (.cells #[.int .i64 (-1)] 3)).alloc (.cells #[.int .i64 (kb : Int)] 3)).lt) _ rfl ?_
                  intro gP cP wP ownP groP hatP hltP
                  have HTP : Hid (Two (fun i => wo.heap.size ≤ i) wo.heap.size wo 0 (o : Int) (.slice pa (chP G i).length pc) (.slice ea (chE i).length ec) (.slice (some ⟨gP, 0, none⟩) ((chP G i).length + 1) cP) (.slice ea (chE i).length ec) ((chP G i) ++ [(kb : Int)]) (chE i) wP) := ((HTD.out.alloc (.cells #[.int .i64 (-1)] 3)).alloc (.cells #[.int .i64 (kb : Int)] 3)).pushP ownP groP hatP
                  have HTM : Hid (wP.heap[wz.heap.size]? = some (.cells #[.int .i64 (-1)] 3 (0, 0))) := tmp_kept groP (tmp_old wz.drew _ _) (fun e => by have h9 := (HTD.out.oP.lt _ e).2; have h8 : wz.drew.heap.size = wz.heap.size := rfl; omega)
                  have hS4 := (HCE.out _ _ _ _ _ _ _ HTP.out).2.2
                  refine hK.out _ _ (fun _ => hS4) ?_
                  clear hK K
                  try simp only [Act.put, List.getElem_toArray, List.getElem_cons_succ, List.getElem_cons_zero, List.setIfInBounds_toArray, List.set_cons_zero, List.set_cons_succ]
                  refine Till.take (i := 9) (v := .pointer (some ⟨wo.heap.size, 2, none⟩)) rfl (by kernel_rfl) (by kernel_rfl) (by kernel_rfl) (fun _ _ _ h => h) (by decide) (Waits.of (by kernel_rfl)) (by kernel_rfl) (Or.inl ⟨by rfl, fun w hSw => by (obtain ⟨s2, s3⟩ := hSw; go_simp)⟩) hS4 ?_
                  try simp only [Act.put, List.getElem_toArray, List.getElem_cons_succ, List.getElem_cons_zero, List.setIfInBounds_toArray, List.set_cons_zero, List.set_cons_succ]
                  refine Till.ready (rs := [8]) (by kernel_rfl) (by simp) ?_
                  refine Ups.cons rfl (fun K hK => ?_) Ups.nil
                  refine step_append_lies _ (by rfl) _ _ _ (by rfl) (wo.heap.size + 1) 3 i3 (.int .i64 0) 1 8 undI3 h3a h3b h3c h3d rfl (by omega) (.slice ea (chE i).length ec) (chE i).length (intsC (chE i)) (by rfl) HTP.out.oE ⟨wz.heap.size, 0, none⟩ 1 1 [.int .i64 (-1)] (by rfl) (by rfl) (World.news_of_block (cs := #[.int .i64 (-1)]) (t := 3) (fr := (0, 0)) (HTM.out)) (one_int _ _) (by omega) (by unfold maxLen; omega) (by omega) HTP.out.lt _ rfl ?_
                  intro gE cE wE ownE groE hatE hltE
                  have HTE : Hid (Two (fun i => wo.heap.size ≤ i) wo.heap.size wo 0 (o : Int) (.slice pa (chP G i).length pc) (.slice ea (chE i).length ec) (.slice (some ⟨gP, 0, none⟩) ((chP G i).length + 1) cP) (.slice (some ⟨gE, 0, none⟩) ((chE i).length + 1) cE) ((chP G i) ++ [(kb : Int)]) ((chE i) ++ [(-1)]) wE) := HTP.out.pushE ownE groE hatE
                  have hS8 := (HCE.out _ _ _ _ _ _ _ HTE.out).2.2
                  refine hK.out _ _ (fun _ => hS8) ?_
                  clear hK K
                  try simp only [Act.put, List.getElem_toArray, List.getElem_cons_succ, List.getElem_cons_zero, List.setIfInBounds_toArray, List.set_cons_zero, List.set_cons_succ]
                  clear ownE groE hatE hltE ownP groP hatP hltP
                  obtain ⟨z0, z1, z2, z3⟩ := HTE.out.cells
                  have fz2 := HTE.out.frozen 2
                  have fz3 := HTE.out.frozen 3
                  refine Till.ready (rs := [10]) (by kernel_rfl) (by simp) ?_
                  refine Ups.cons rfl (fun K hK => ?_) Ups.nil
                  go_simp
                  refine hK.out _ _ (fun h => Bool.noConfusion (Eq.trans (Eq.symm h) (by kernel_rfl : _ = true))) ?_
                  clear hK K
                  try simp only [Act.put, List.getElem_toArray, List.getElem_cons_succ, List.getElem_cons_zero, List.setIfInBounds_toArray, List.set_cons_zero, List.set_cons_succ]
                  refine Till.ready (rs := [11]) (by kernel_rfl) (by simp) ?_
                  refine Ups.cons rfl (fun K hK => ?_) Ups.nil
                  go_simp
                  refine hK.out _ _ (fun h => Bool.noConfusion (Eq.trans (Eq.symm h) (by kernel_rfl : _ = true))) ?_
                  clear hK K
                  try simp only [Act.put, List.getElem_toArray, List.getElem_cons_succ, List.getElem_cons_zero, List.setIfInBounds_toArray, List.set_cons_zero, List.set_cons_succ]
                  refine Till.ready (rs := [12]) (by kernel_rfl) (by simp) ?_
                  refine Ups.cons rfl (fun K hK => ?_) Ups.nil
                  go_simp
                  refine hK.out _ _ (fun h => Bool.noConfusion (Eq.trans (Eq.symm h) (by kernel_rfl : _ = true))) ?_
                  clear hK K
                  try simp only [Act.put, List.getElem_toArray, List.getElem_cons_succ, List.getElem_cons_zero, List.setIfInBounds_toArray, List.set_cons_zero, List.set_cons_succ]
                  refine Till.done (by kernel_rfl) ?_
                  clear z0 z1 z2 z3 fz2 fz3
                  refine NoPanic.normal ?_
                  go_wp2_with fail
                  go_roundw
                  case rel => exact ⟨i + 1, _, _, by omega, by rw [HCM.out]; go_num, by go_num, by rw [HPS.out, HES.out]; exact HTE.out.set⟩
                  case measure => simp [intOf]; omega


            --@/A
          · --@B
            have hiN : i = N := by omega
            subst hiN
            have HBW : Hid (Bs w l b r o u9 wr) := HO.out.low HT.out.bel
            have HNX : Hid (bestK (ordS l b r) o = o → Bs w l b r (o + 1) (.int .i64 (chS G i : Int)) ((((wr.setCell ⟨w.heap.size + 1, 0, none⟩ (.int .i64 0)).setCell ⟨w.heap.size + 1, 1, none⟩ (.int .i64 (o : Int))).setCell ⟨w.heap.size + 1, 2, none⟩ (.slice pa (chP G i).length pc)).setCell ⟨w.heap.size + 1, 3, none⟩ (.slice ea (chE i).length ec))) := fun hk => by
              have h := Bs.next (pa := pa) (ea := ea) (pc := pc) (ec := ec) (X := wr) HO.out hlt (by rw [HNN.out, HGE.out]; exact HT.out) hk
              rw [HNN.out, HGE.out, HOS.out] at h
              exact h
            obtain ⟨a0, a1, a2, a3, hOB⟩ := HBW.out.box
            have hxb := hOB.bb
            have v0 : wr.cell? ⟨w.heap.size + 1, 0, none⟩ = some (a0) := by rw [cell_of_row _ _ _ _ _ _ hxb]; rfl
            have fv0 : wr.frozen? ⟨w.heap.size + 1, 0, none⟩ = false := by simp [World.frozen?, hxb]
            have v1 : wr.cell? ⟨w.heap.size + 1, 1, none⟩ = some (a1) := by rw [cell_of_row _ _ _ _ _ _ hxb]; rfl
            have fv1 : wr.frozen? ⟨w.heap.size + 1, 1, none⟩ = false := by simp [World.frozen?, hxb]
            have v2 : wr.cell? ⟨w.heap.size + 1, 2, none⟩ = some (a2) := by rw [cell_of_row _ _ _ _ _ _ hxb]; rfl
            have fv2 : wr.frozen? ⟨w.heap.size + 1, 2, none⟩ = false := by simp [World.frozen?, hxb]
            have v3 : wr.cell? ⟨w.heap.size + 1, 3, none⟩ = some (a3) := by rw [cell_of_row _ _ _ _ _ _ hxb]; rfl
            have fv3 : wr.frozen? ⟨w.heap.size + 1, 3, none⟩ = false := by simp [World.frozen?, hxb]

            clear hxb hOB
            rcases HO.out.ways with ⟨hoz, hu⟩ | ⟨m, hom, hu⟩
            · subst hu
              have hB1 : bestK (ordS l b r) o = o := by subst hoz; rfl
              have HFI := HNX.out hB1
              clear hoz hB1 HNX
              go_wp2_with fail
              generalize hwf : World.setCell _ _ _ = wf at *
              have HFJ : Hid (Bs w l b r (min (o + 1) (q + 1)) (.int .i64 (chS G i : Int)) wf) := by rw [HMN.out]; exact HFI
              clear hwf HFI
              go_roundw
              case rel => exact ⟨o + 1, by omega, by go_num, HFJ.out⟩
              case measure => simp [intOf]; omega
            · subst hu
              have HBE : Hid (bestK (ordS l b r) o = if ordS l b r o < ordS l b r (bestK (ordS l b r) m) then o else bestK (ordS l b r) m) := by show _ = _; rw [hom]; rfl
              have HOM : Hid (o = m + 1) := hom
              clear hom
              have hcb : ordS l b r (bestK (ordS l b r) m) ≤ 17000000000 := by
                have hle := bestK_le (ordS l b r) m
                have h4 := HOM.out
                exact HSB.out _ (by omega)
              generalize hvv : ordS l b r (bestK (ordS l b r) m) = vb at *
              have HVB : Hid (ordS l b r (bestK (ordS l b r) m) = vb) := hvv
              by_cases hlv : chS G i < vb
              · have hB1 : bestK (ordS l b r) o = o := by
                  have e := HBE.out
                  rw [HOS.out, if_pos hlv] at e
                  exact e
                have HFI := HNX.out hB1
                clear hvv hB1 HNX
                go_wp2_with fail
                generalize hwf : World.setCell _ _ _ = wf at *
                have HFJ : Hid (Bs w l b r (min (o + 1) (q + 1)) (.int .i64 (chS G i : Int)) wf) := by rw [HMN.out]; exact HFI
                clear hwf HFI
                go_roundw
                case rel => exact ⟨o + 1, by omega, by go_num, HFJ.out⟩
                case measure => simp [intOf]; omega
              · have hB1 : bestK (ordS l b r) o = bestK (ordS l b r) m := by
                  have e := HBE.out
                  rw [HOS.out, if_neg hlv] at e
                  exact e
                have HFJ : Hid (Bs w l b r (min (o + 1) (q + 1)) (.int .i64 (vb : Int)) wr) := by
                  rw [HMN.out]
                  have hh := HBW.out
                  rw [HOM.out] at hh hB1 ⊢
                  exact hh.skip hB1
                clear hvv hB1 HNX
                go_wp2_with fail
                go_roundw
                case rel => exact ⟨o + 1, by omega, by go_num, HFJ.out⟩
                case measure => simp [intOf]; omega
            --@/B
      · --@C
        have HM2 : Hid (min (o + 1) (q + 1) = min o (q + 1)) := by show _ = _; omega
        have KSo := fun wx => KS.out o false wx (HSN.out o hlt hoq)
        have HO2 : Hid (Bs w l b r (min (o + 1) (q + 1)) u9 (wo.alloc (.cells #[.int .i64 0, .int .i64 (o : Int), .slice none 0 0, .slice none 0 0] 24))) := by rw [HM2.out]; exact HO.out.low ((Below.refl _ _).alloc (Nat.le_refl _) _)
        have HX2 : Hid ((wo.alloc (.cells #[.int .i64 0, .int .i64 (o : Int), .slice none 0 0, .slice none 0 0] 24)).heap[wo.heap.size]? = some (.cells #[.int .i64 0, .int .i64 (o : Int), .slice none 0 0, .slice none 0 0] 24 (0, 0))) := heap_alloc_new _ _
        go_wp2_with fail
        generalize hw2 : World.alloc _ _ = w2 at *
        clear hw2
        refine (KSo w2).mono ?_
        rintro e w3 ⟨rfl, hb3⟩
        have HO3 : Hid (Bs w l b r (min (o + 1) (q + 1)) u9 w3) := HO2.out.low hb3
        clear hb3 KSo
        go_wp2_with fail
        go_roundw
        case rel => exact ⟨o + 1, by omega, by go_num, HO3.out⟩
        case measure => simp [intOf]; omega
        --@/C
    · --@D
      have hmq : min o (q + 1) = q + 1 := by omega
      rw [hmq] at HO
      obtain ⟨hu, pa, pc, ea, ec, hOB, hRC, hpb, heb⟩ := HO.out
      have HOB2 : Hid (OB w (riceC (bestRc l b r (bestK (ordS l b r) q)) pa pc ea ec) wo) := hOB
      have HRC2 : Hid (RcAt wo (bestRc l b r (bestK (ordS l b r) q)) pa ea) := hRC
      have hPB : Hid (∀ g, blockOf pa = some g → w.heap.size + 1 < g) := hpb
      have hEB : Hid (∀ g, blockOf ea = some g → w.heap.size + 1 < g) := heb
      subst hu
      have hxr := hOB.rb
      have hxb := hOB.bb
      unfold riceC at hxb
      have u0 : wo.cell? ⟨w.heap.size, 0, none⟩ = some (.int .i64 0) := by rw [cell_of_row _ _ _ _ _ _ hxr]; rfl
      have fu0 : wo.frozen? ⟨w.heap.size, 0, none⟩ = false := by simp [World.frozen?, hxr]
      have u1 : wo.cell? ⟨w.heap.size, 1, none⟩ = some (.int .i64 0) := by rw [cell_of_row _ _ _ _ _ _ hxr]; rfl
      have fu1 : wo.frozen? ⟨w.heap.size, 1, none⟩ = false := by simp [World.frozen?, hxr]
      have u2 : wo.cell? ⟨w.heap.size, 2, none⟩ = some (.slice none 0 0) := by rw [cell_of_row _ _ _ _ _ _ hxr]; rfl
      have fu2 : wo.frozen? ⟨w.heap.size, 2, none⟩ = false := by simp [World.frozen?, hxr]
      have u3 : wo.cell? ⟨w.heap.size, 3, none⟩ = some (.slice none 0 0) := by rw [cell_of_row _ _ _ _ _ _ hxr]; rfl
      have fu3 : wo.frozen? ⟨w.heap.size, 3, none⟩ = false := by simp [World.frozen?, hxr]
      have v0 : wo.cell? ⟨w.heap.size + 1, 0, none⟩ = some (.int .i64 (bestRc l b r (bestK (ordS l b r) q)).m) := by rw [cell_of_row _ _ _ _ _ _ hxb]; rfl
      have fv0 : wo.frozen? ⟨w.heap.size + 1, 0, none⟩ = false := by simp [World.frozen?, hxb]
      have v1 : wo.cell? ⟨w.heap.size + 1, 1, none⟩ = some (.int .i64 (bestRc l b r (bestK (ordS l b r) q)).o) := by rw [cell_of_row _ _ _ _ _ _ hxb]; rfl
      have fv1 : wo.frozen? ⟨w.heap.size + 1, 1, none⟩ = false := by simp [World.frozen?, hxb]
      have v2 : wo.cell? ⟨w.heap.size + 1, 2, none⟩ = some (.slice pa (bestRc l b r (bestK (ordS l b r) q)).P.length pc) := by rw [cell_of_row _ _ _ _ _ _ hxb]; rfl
      have fv2 : wo.frozen? ⟨w.heap.size + 1, 2, none⟩ = false := by simp [World.frozen?, hxb]
      have v3 : wo.cell? ⟨w.heap.size + 1, 3, none⟩ = some (.slice ea (bestRc l b r (bestK (ordS l b r) q)).E.length ec) := by rw [cell_of_row _ _ _ _ _ _ hxb]; rfl
      have fv3 : wo.frozen? ⟨w.heap.size + 1, 3, none⟩ = false := by simp [World.frozen?, hxb]

      clear hxr hxb hOB hRC hpb heb hmq
      generalize hvv : ordS l b r (bestK (ordS l b r) q) = vb at *
      generalize hcc : bestRc l b r (bestK (ordS l b r) q) = c at *
      have HVV : Hid (ordS l b r (bestK (ordS l b r) q) = vb) := hvv
      have HCC : Hid (bestRc l b r (bestK (ordS l b r) q) = c) := hcc
      clear hvv hcc
      go_wp2_with fail
      generalize hwf : World.setCell _ _ _ = wf
      have hrow : wf.heap[w.heap.size]? = some (.cells (riceC c pa pc ea ec) 24 (0, 0)) := by rw [← hwf]; exact set4_a _ _ _ _ _ HOB2.out.rb
      have hst : Stays (only w.heap.size) wo wf := by rw [← hwf]; exact set4_o _ _ _ _ _
      have hbel : Below w.heap.size w wf := by rw [← hwf]; exact (((HOB2.out.below.setCell (Nat.le_refl _) _).setCell (Nat.le_refl _) _).setCell (Nat.le_refl _) _).setCell (Nat.le_refl _) _
      have hrc : RcAt wf c pa ea := ⟨HRC2.out.P.stays hst (fun g hg e => by have := hPB.out g hg; unfold only at e; omega), HRC2.out.E.stays hst (fun g hg e => by have := hEB.out g hg; unfold only at e; omega), HRC2.out.m1, HRC2.out.m2, HRC2.out.o1, HRC2.out.o2⟩
      refine bodyPost_ret (v := .tuple #[.agg (riceC c pa pc ea ec), .int .i64 (vb : Int)]) ?_ rfl ⟨pa, pc, ea, ec, by rw [HCC.out, HVV.out, riceV], by rw [HCC.out]; exact hrc, hbel⟩
      rw [results_two rfl]
      have hld := run_loadVar_row (P := Try.prog) (wf) (w.heap.size) 24 24 (riceC c pa pc ea ec) (0, 0) _ hrow Try.underlying24 rfl info_Rice
      simp [asAddr, Result.andThen, hld]
      --@/D

end Go.Proofs.Ytdlakbgcflekkaa
