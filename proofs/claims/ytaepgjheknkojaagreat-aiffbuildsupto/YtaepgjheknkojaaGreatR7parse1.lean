/- Own text: the walk of the document's Parse (aiff), what it goes by. -/
import Derived.Test.YtaepgjheknkojaaGreatR7parse
import Derived.Test.YtaepgjheknkojaaGreatG42x
import Derived.Deep.CutRange
import Derived.Deep.RegionWith
import Derived.Deep.RegionHeld3
namespace Go.Proofs.YtaepgjheknkojaaGreat
open Go.RowKit
set_option linter.unusedSimpArgs false
set_option linter.unusedVariables false

theorem givesE (w : World) (s : ByteArray) (err : Int) (w' : World) (h : p7E s = err) (hn : err ≠ 0) (hB : Below w.heap.size w w') : GivesB7 w s (.returned (.tuple #[.agg zeroP7, .agg zeroW, .int .i64 err])) w' :=
  ⟨⟨0, 0, 0, []⟩, none, 0, ⟨#[]⟩, [], none, 0, by rw [h]; rfl, hB, rows_none _ _, ChksAt.nil _ _, fun q => absurd (h.symm.trans q) hn, fun _ => ⟨rfl, rfl, rfl⟩⟩
/-- The answers' boxes, the chunks, and what COMM says. -/
structure Jc7 (w0 : World) (Q : Nat) (X : Com) (ao : Option Addr) (cap : Nat) (l : List Chk) (w : World) : Prop where
  n : Jn7 w0 w
  o : OwnC (w0.heap.size + 3) ao cap l w
  bx : Box Q (comC X) 51 w
  ne : ∀ g off, ao = some ⟨g, off, none⟩ → Q ≠ g
theorem Jc7.next {w0 w w1 : World} {Q : Nat} {X : Com} {ao : Option Addr} {cap : Nat} {l : List Chk} (h : Jc7 w0 Q X ao cap l w) (hB : Below w.heap.size w w1) : Jc7 w0 Q X ao cap l w1 := ⟨h.n.next hB, h.o.next hB, h.bx.next hB, h.ne⟩
theorem Jc7.new {w0 w : World} {ao : Option Addr} {cap : Nat} {l : List Chk} (hn : Jn7 w0 w) (ho : OwnC (w0.heap.size + 3) ao cap l w) (X : Com) : Jc7 w0 w.heap.size X ao cap l (w.alloc (.cells (comC X) 51)) :=
  ⟨hn.next (belA _ _), ho.next (belA _ _), Box.new _ _ _, fun g off e => by
    subst e
    have := (World.ownsRow.lt ho g rfl).2
    omega⟩
theorem Jn7.other {w0 w : World} (h : Jn7 w0 w) {a : Addr} (ha : w0.heap.size + 2 < a.block) (v : Value) : Jn7 w0 (w.setCell a v) :=
  ⟨⟨(Below.heap_setCell _ _ _ _ (by omega)).trans h.z.rp, (Below.heap_setCell _ _ _ _ (by omega)).trans h.z.rw', h.z.below.setCell (by omega) _⟩, (Below.heap_setCell _ _ _ _ (by omega)).trans h.n⟩
theorem OwnC.apart {B g : Nat} {ao : Option Addr} {cap : Nat} {l : List Chk} {w : World} (h : OwnC B ao cap l w) (hg : ∀ k off, ao = some ⟨k, off, none⟩ → g ≠ k) (j : Nat) (v : Value) : OwnC B ao cap l (w.setCell ⟨g, j, none⟩ v) := by
  refine ⟨h.1, ?_⟩
  rcases h.2 with q | ⟨k, c, cur, e, hb, hk, rest⟩
  · exact Or.inl q
  · refine Or.inr ⟨k, c, cur, e, hb, (Below.heap_setCell _ _ _ _ (by show k ≠ g; cases e; exact fun q => hg k 0 rfl q.symm)).trans hk, rest⟩
theorem Jc7.zero {w0 w : World} {Q : Nat} {ao : Option Addr} {cap : Nat} {l : List Chk} (hn : Jn7 w0 w) (ho : OwnC (w0.heap.size + 3) ao cap l w) (hq : Box Q zeroQ 51 w) (ne : ∀ g off, ao = some ⟨g, off, none⟩ → Q ≠ g) (lo : w0.heap.size + 2 < Q) (X : Com) :
    Jc7 w0 Q X ao cap l ((((((w.setCell ⟨Q, 0, none⟩ (.int .i64 X.rate)).setCell ⟨Q, 1, none⟩ (.int .i64 X.ch)).setCell ⟨Q, 2, none⟩ (.int .i64 X.wd)).setCell ⟨Q, 3, none⟩ (.slice none 0 0)).setCell ⟨Q, 4, none⟩ (.int .i64 X.smp)).setCell ⟨Q, 5, none⟩ (.bool X.lit)) :=
  ⟨(((((hn.other (a := ⟨Q, 0, none⟩) lo _).other (a := ⟨Q, 1, none⟩) lo _).other (a := ⟨Q, 2, none⟩) lo _).other (a := ⟨Q, 3, none⟩) lo _).other (a := ⟨Q, 4, none⟩) lo _).other (a := ⟨Q, 5, none⟩) lo _,
    (((((ho.apart ne 0 _).apart ne 1 _).apart ne 2 _).apart ne 3 _).apart ne 4 _).apart ne 5 _,
    (((((hq.set 0 _).set 1 _).set 2 _).set 3 _).set 4 _).set 5 _, ne⟩
theorem Jc7.cut {w0 w : World} {Q g : Nat} {X : Com} {cap : Nat} {l : List Chk} (h : Jc7 w0 Q X (some ⟨g, 0, none⟩) cap l w) (i : Nat) (c : Chk) (hc : l[i]? = some c) (x : ByteArray) : Jc7 w0 Q X (some ⟨g, 0, none⟩) cap (l.set i ⟨c.id, x, c.pad⟩) (w.setCell ⟨g, i * 3 + 1, none⟩ (.string x)) := by
  have hg := h.o.fresh g 0 rfl
  exact ⟨h.n.other (a := ⟨g, i * 3 + 1, none⟩) (by show w0.heap.size + 2 < g; omega) _, h.o.set i c hc x, h.bx.other (a := ⟨g, i * 3 + 1, none⟩) (h.ne g 0 rfl) _, h.ne⟩
theorem find_minus (l : List Chk) (id : ByteArray) (h : (findN l id).2 ≤ 1) : ((findN l id).1 = -1 ∧ ((findN l id).2 == 1) = false) ∨ (∃ i c, l[i]? = some c ∧ (findN l id).1 = ((i : Nat) : Int) ∧ ((findN l id).2 == 1) = true) := by
  rcases findN_cases l id with ⟨q1, q2, _⟩ | ⟨i, c, q1, q2, _, q4⟩
  · exact Or.inl ⟨q1, by rw [q2]; rfl⟩
  · exact Or.inr ⟨i, c, q1, q2, by rw [beq_iff_eq]; omega⟩

end Go.Proofs.YtaepgjheknkojaaGreat
