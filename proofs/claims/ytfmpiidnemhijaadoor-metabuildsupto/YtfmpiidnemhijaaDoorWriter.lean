/- Own text: a writer of bits in memory: its block, the bytes that it owns, and what a store leaves of both. -/
import Derived.Test.YtfmpiidnemhijaaDoorMem
import Derived.Deep.Draws
import Derived.Test.YtfmpiidnemhijaaDoorBitlist
namespace Go.Proofs.YtfmpiidnemhijaaDoor
open Go.RowKit
set_option linter.unusedSimpArgs false
set_option linter.unusedVariables false


/-- Bytes as values. -/
def byteVals (bs : List Nat) : List Value := bs.map fun (b : Nat) => Value.int .u8 (b : Int)

theorem byteVals_length (bs : List Nat) : (byteVals bs).length = bs.length := by simp [byteVals]
theorem byteVals_append (as bs : List Nat) : byteVals (as ++ bs) = byteVals as ++ byteVals bs := by simp [byteVals]
theorem byteVals_set (bs : List Nat) (j y : Nat) : (byteVals bs).set j (.int .u8 (y : Int)) = byteVals (bs.set j y) := by simp [byteVals, List.map_set]
theorem byteVals_zeros (k : Nat) : byteVals (List.replicate k 0) = List.replicate k (.int .u8 0) := by simp [byteVals]

/-- A writer at block p: its slice, which owns the bytes bs; how many bits. -/
structure Wr (w : World) (p : Nat) (ao : Option Addr) (cap : Nat) (bs : List Nat) (cnt : Nat) : Prop where
  blk : w.heap[p]? = some (.cells #[.slice ao bs.length cap, .int .i64 (cnt : Int)] 113 (0, 0))
  own : w.ownsRow 0 5 1 (.slice ao bs.length cap) bs.length (byteVals bs)
  ne : blockOf ao ≠ some p

section
variable {w w' : World} {p : Nat} {ao : Option Addr} {cap : Nat} {bs : List Nat} {cnt : Nat}

theorem Wr.c0 (h : Wr w p ao cap bs cnt) : w.cell? ⟨p, 0, none⟩ = some (.slice ao bs.length cap) := by simp [World.cell?, h.blk]
theorem Wr.c1 (h : Wr w p ao cap bs cnt) : w.cell? ⟨p, 1, none⟩ = some (.int .i64 (cnt : Int)) := by simp [World.cell?, h.blk]
theorem Wr.f (h : Wr w p ao cap bs cnt) (o : Nat) : w.frozen? ⟨p, o, none⟩ = false := by simp [World.frozen?, h.blk]
theorem Wr.lt (h : Wr w p ao cap bs cnt) : p < w.heap.size := lt_of_block h.blk

theorem Wr.row (h : Wr w p ao cap bs cnt) (hn : 0 < bs.length) : ∃ g, ao = some ⟨g, 0, none⟩ ∧ g ≠ p ∧ g < w.heap.size ∧ bs.length ≤ cap ∧ cap ≤ maxLen := by
  rcases h.own.2 with ⟨_, h0⟩ | ⟨g, cap', cur, hv, _, hg, hnc, hcm, _⟩
  · omega
  · simp only [Value.slice.injEq, true_and] at hv
    obtain ⟨rfl, rfl⟩ := hv
    exact ⟨g, rfl, fun e => h.ne (by simp [blockOf, e]), lt_of_block hg, hnc, hcm⟩

theorem Wr.cg {g : Nat} (h : Wr w p (some ⟨g, 0, none⟩) cap bs cnt) (j : Nat) (hj : j < bs.length) : w.cell? ⟨g, j, none⟩ = some (.int .u8 ((bs[j] : Nat) : Int)) := by
  rw [h.own.cellAt j (by omega)]
  simp [byteVals, hj]

theorem Wr.fg {g : Nat} (h : Wr w p (some ⟨g, 0, none⟩) cap bs cnt) (j : Nat) : w.frozen? ⟨g, j, none⟩ = false := h.own.frozenAt j

/-- Blocks that are as they were. -/
theorem Wr.kept (h : Wr w p ao cap bs cnt) (hp : w'.heap[p]? = w.heap[p]?) (ha : ∀ b, blockOf ao = some b → w'.heap[b]? = w.heap[b]?) : Wr w' p ao cap bs cnt := by
  refine ⟨by rw [hp]; exact h.blk, ⟨h.own.1, ?_⟩, h.ne⟩
  rcases h.own.2 with h0 | ⟨g, cap', cur, hv, hb, hg, r⟩
  · exact .inl h0
  · refine .inr ⟨g, cap', cur, hv, hb, ?_, r⟩
    simp only [Value.slice.injEq, true_and] at hv
    rw [ha g (by simp [blockOf, hv.1])]
    exact hg

theorem Wr.blocks (h : Wr w p ao cap bs cnt) : ∀ b, blockOf ao = some b → b < w.heap.size := by
  intro b hb
  obtain ⟨ao1, cap1, hv, _, _, _, hs⟩ := owns_shape h.own
  simp only [Value.slice.injEq, true_and] at hv
  obtain ⟨rfl, rfl⟩ := hv
  cases ao with
  | none => cases hb
  | some a => cases hb; exact (hs a rfl).2.2

theorem Wr.stays (h : Wr w p ao cap bs cnt) {S : Nat → Prop} (hS : Stays S w w') (hp : ¬ S p) (ha : ∀ b, blockOf ao = some b → ¬ S b) : Wr w' p ao cap bs cnt :=
  h.kept (hS.block p h.lt hp) (fun b hb => hS.block b (h.blocks b hb) (ha b hb))

theorem Wr.drew (h : Wr w p ao cap bs cnt) : Wr w.drew p ao cap bs cnt := h.kept rfl (fun _ _ => rfl)
theorem Wr.drewN (h : Wr w p ao cap bs cnt) (n : Nat) : Wr (w.drewN n) p ao cap bs cnt := h.kept rfl (fun _ _ => rfl)

theorem block_setCell (w : World) (p i : Nat) (cs : Array Value) (t : TypeId) (u : Value) (h : w.heap[p]? = some (.cells cs t (0, 0))) :
    (w.setCell ⟨p, i, none⟩ u).heap[p]? = some (.cells (cs.setIfInBounds i u) t (0, 0)) := heap_setCell_same w p i cs t u h

theorem Wr.setCount (h : Wr w p ao cap bs cnt) (c : Nat) : Wr (w.setCell ⟨p, 1, none⟩ (.int .i64 (c : Int))) p ao cap bs c := by
  refine ⟨?_, ownsRow_setCell_other h.own (fun e => h.ne ?_) _, h.ne⟩
  · rw [block_setCell w p 1 _ _ _ h.blk]
    simp
  · cases ao with
    | none => simp [Value.ownBlock] at e
    | some a => simpa [Value.ownBlock, blockOf] using e

theorem Wr.setByte {g : Nat} (h : Wr w p (some ⟨g, 0, none⟩) cap bs cnt) (j y : Nat) : Wr (w.setCell ⟨g, j, none⟩ (.int .u8 (y : Int))) p (some ⟨g, 0, none⟩) cap (bs.set j y) cnt := by
  have hgp : g ≠ p := fun e => h.ne (by simp [blockOf, e])
  refine ⟨?_, ?_, h.ne⟩
  · rw [Below.heap_setCell w ⟨g, j, none⟩ _ p (fun e => hgp (by simpa using e.symm))]
    simpa using h.blk
  · have := (h.own.stored j (.int .u8 (y : Int))).1
    rw [byteVals_set] at this
    simpa using this

/-- Behind an append: the new slice is laid into the writer. -/
theorem Wr.setSlice (h : Wr w p ao cap bs cnt) {ao' : Option Addr} {cap' : Nat} {bs' : List Nat} (hg : w.grownBy w' (blockOf ao)) (hm : Moved w.heap.size ao ao') (n' : Nat) (hn : n' = bs'.length)
    (hown : w'.ownsRow 0 5 1 (.slice ao' n' cap') n' (byteVals bs')) : Wr (w'.setCell ⟨p, 0, none⟩ (.slice ao' n' cap')) p ao' cap' bs' cnt := by
  subst hn
  have hne : blockOf ao' ≠ some p := fun e => by
    rcases hm p e with h1 | h1
    · exact h.ne h1
    · have := h.lt; omega
  have hb : w'.heap[p]? = some (.cells #[.slice ao bs.length cap, .int .i64 (cnt : Int)] 113 (0, 0)) := by
    rw [hg.block p h.lt (fun e => h.ne e.symm)]; exact h.blk
  refine ⟨?_, ownsRow_setCell_other hown (fun e => hne ?_) _, hne⟩
  · rw [block_setCell w' p 0 _ _ _ hb]
    simp
  · cases ao' with
    | none => simp [Value.ownBlock] at e
    | some a => simpa [Value.ownBlock, blockOf] using e

end

theorem owns_drewN {w : World} {base e size : Nat} {v : Value} {n : Nat} {xs : List Value} (h : w.ownsRow base e size v n xs) (k : Nat) : (w.drewN k).ownsRow base e size v n xs := h

/-- What a writer's call may write: its own block and its row. -/
def foot (p : Nat) (ao : Option Addr) : Nat → Prop := fun k => k = p ∨ blockOf ao = some k

/-- A writer that holds the bits B. -/
def WrB (w : World) (p : Nat) (ao : Option Addr) (B : List Nat) : Prop := ∃ cap, Wr w p ao cap (pack B) B.length

theorem Stays.foot {p : Nat} {ao ao' : Option Addr} {a b c : World} (h : Stays (foot p ao) a b) (k : Stays (foot p ao') b c) (hm : Moved a.heap.size ao ao') : Stays (foot p ao) a c :=
  h.trans k (fun i hi ht => by
    rcases ht with ht | ht
    · exact .inl ht
    · rcases hm i ht with h1 | h1
      · exact .inr h1
      · omega)

theorem Stays.drewN {S : Nat → Prop} {a w : World} (h : Stays S a w) (n : Nat) : Stays S a (w.drewN n) := ⟨h.os, h.tape, h.output, h.size, h.block⟩

theorem WrB.lt {w : World} {p : Nat} {ao : Option Addr} {B : List Nat} (h : WrB w p ao B) : p < w.heap.size := by obtain ⟨_, h⟩ := h; exact h.lt
theorem WrB.blocks {w : World} {p : Nat} {ao : Option Addr} {B : List Nat} (h : WrB w p ao B) : ∀ b, blockOf ao = some b → b < w.heap.size := by obtain ⟨_, h⟩ := h; exact h.blocks
theorem WrB.stays {w w' : World} {p : Nat} {ao : Option Addr} {B : List Nat} (h : WrB w p ao B) {S : Nat → Prop} (hS : Stays S w w') (hp : ¬ S p) (ha : ∀ b, blockOf ao = some b → ¬ S b) : WrB w' p ao B := by
  obtain ⟨cap, h⟩ := h; exact ⟨cap, h.stays hS hp ha⟩


/-- One round of 'put': t bits more in the last byte. -/
theorem WrB.step {wx : World} {p g cap l t : Nat} {B : List Nat} (h : Wr wx p (some ⟨g, 0, none⟩) cap (packN B l) B.length) (h0 : 0 < l) (h1 : 8 * l ≤ B.length + 8) (ht : 0 < t) (h2 : B.length + t ≤ 8 * l)
    (x : Nat) (c : Int) (hc : c = ((B.length + t : Nat) : Int)) : WrB ((wx.setCell ⟨g, l - 1, none⟩ (.int .u8 ((byteOf B (l - 1) + x % 2 ^ t * 2 ^ (8 * l - B.length - t) : Nat) : Int))).setCell ⟨p, 1, none⟩ (.int .i64 c)) p (some ⟨g, 0, none⟩) (B ++ bitsOf x t) := by
  subst hc
  refine ⟨cap, ?_⟩
  have hs := (h.setByte (l - 1) (byteOf B (l - 1) + x % 2 ^ t * 2 ^ (8 * l - B.length - t))).setCount (B.length + t)
  have e := packN_step B (bitsOf x t) (l - 1) (by omega) (by rw [bitsOf_length]; omega)
  rw [num_bitsOf, bitsOf_length, show l - 1 + 1 = l from by omega, show 8 * (l - 1) + 8 = 8 * l from by omega] at e
  rw [← e] at hs
  unfold pack
  rw [List.length_append, bitsOf_length, show (B.length + t + 7) / 8 = l from by omega]
  exact hs

theorem WrB.step1 {wx : World} {p g cap l : Nat} {B : List Nat} (h : Wr wx p (some ⟨g, 0, none⟩) cap (packN B l) B.length) (h0 : 0 < l) (h1 : 8 * l ≤ B.length + 8) (h2 : B.length < 8 * l)
    (x : Nat) (c : Int) (hc : c = ((8 * l : Nat) : Int)) : WrB ((wx.setCell ⟨g, l - 1, none⟩ (.int .u8 ((byteOf B (l - 1) + x % 2 ^ (8 * l - B.length) : Nat) : Int))).setCell ⟨p, 1, none⟩ (.int .i64 c)) p (some ⟨g, 0, none⟩) (B ++ bitsOf x (8 * l - B.length)) := by
  have hs := WrB.step h h0 h1 (show 0 < 8 * l - B.length by omega) (by omega) x c (by rw [hc]; omega)
  rw [Nat.sub_self, Nat.pow_zero, Nat.mul_one] at hs
  exact hs

theorem packN_full (B : List Nat) (h : B.length = 8 * (pack B).length) : packN B ((pack B).length + 1) = pack B ++ [0] := by
  rw [pack_length] at h ⊢
  rw [packN_past B _ 1 (by omega)]
  rfl

end Go.Proofs.YtfmpiidnemhijaaDoor
