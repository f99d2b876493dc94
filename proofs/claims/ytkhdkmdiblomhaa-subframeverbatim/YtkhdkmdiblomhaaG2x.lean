/- Own text: a writer of bits in memory: its block, the bytes that it owns, and what a store leaves of both. what the machine's and, or and shifts make of numbers, in the spelling in which the walk shows them. It speaks of no program. the walk of the writer's inner 'put': the r lowest bits of n are written behind what was there, and nothing else in memory turns. -/
import Derived.Test.YtkhdkmdiblomhaaG1x
import Derived.Deep.Draws
import Derived.WalkKit
import Derived.Laws.Bits64
import Derived.Laws.BitsAllLaws
import Derived.Test.YtkhdkmdiblomhaaRows
import Derived.WalkLawsBesides
import Derived.RegionTactic
import Derived.Deep.QuietTactic
import Derived.BigQuiet
import Derived.Outline
namespace Go.Proofs.Ytkhdkmdiblomhaa
open Go.RowKit
set_option linter.unusedSimpArgs false
set_option linter.unusedVariables false


/-- Bytes as values. -/
def byteVals (bs : List Nat) : List Value := bs.map fun (b : Nat) => Value.int .u8 (b : Int)

theorem byteVals_length (bs : List Nat) : (byteVals bs).length = bs.length := by simp [byteVals]
theorem byteVals_append (as bs : List Nat) : byteVals (as ++ bs) = byteVals as ++ byteVals bs := by simp [byteVals]
theorem byteVals_set (bs : List Nat) (j y : Nat) : (byteVals bs).set j (.int .u8 (y : Int)) = byteVals (bs.set j y) := by simp [byteVals, List.map_set]
theorem byteVals_zeros (k : Nat) : byteVals (List.replicate k 0) = List.replicate k (.int .u8 0) := by simp [byteVals]

/-- A writer at block p: its slice, which owns the bytes bs; how many bits. -/
structure Wr (w : World) (p : Nat) (ao : Option Addr) (cap : Nat) (bs : List Nat) (cnt : Nat) : Prop where
  blk : w.heap[p]? = some (.cells #[.slice ao bs.length cap, .int .i64 (cnt : Int)] 51 (0, 0))
  own : w.ownsRow 0 5 1 (.slice ao bs.length cap) bs.length (byteVals bs)
  ne : blockOf ao ≠ some p

section
variable {w w' : World} {p : Nat} {ao : Option Addr} {cap : Nat} {bs : List Nat} {cnt : Nat}

theorem Wr.c0 (h : Wr w p ao cap bs cnt) : w.cell? ⟨p, 0, none⟩ = some (.slice ao bs.length cap) := by simp [World.cell?, h.blk]
theorem Wr.c1 (h : Wr w p ao cap bs cnt) : w.cell? ⟨p, 1, none⟩ = some (.int .i64 (cnt : Int)) := by simp [World.cell?, h.blk]
theorem Wr.f (h : Wr w p ao cap bs cnt) (o : Nat) : w.frozen? ⟨p, o, none⟩ = false := by simp [World.frozen?, h.blk]
theorem Wr.lt (h : Wr w p ao cap bs cnt) : p < w.heap.size := lt_of_block h.blk

theorem Wr.row (h : Wr w p ao cap bs cnt) (hn : 0 < bs.length) : ∃ g, ao = some ⟨g, 0, none⟩ ∧ g ≠ p ∧ g < w.heap.size ∧ bs.length ≤ cap ∧ cap ≤ maxLen := by
  rcases h.own.2 with ⟨_, h0⟩ | ⟨g, cap', cur, hv, _, hg, hnc, hcm, _⟩
  · omega
  · simp only [Value.slice.injEq, true_and] at hv
    obtain ⟨rfl, rfl⟩ := hv
    exact ⟨g, rfl, fun e => h.ne (by simp [blockOf, e]), lt_of_block hg, hnc, hcm⟩

theorem Wr.cg {g : Nat} (h : Wr w p (some ⟨g, 0, none⟩) cap bs cnt) (j : Nat) (hj : j < bs.length) : w.cell? ⟨g, j, none⟩ = some (.int .u8 ((bs[j] : Nat) : Int)) := by
  rw [h.own.cellAt j (by omega)]
  simp [byteVals, hj]

theorem Wr.fg {g : Nat} (h : Wr w p (some ⟨g, 0, none⟩) cap bs cnt) (j : Nat) : w.frozen? ⟨g, j, none⟩ = false := h.own.frozenAt j

/-- Blocks that are as they were. -/
theorem Wr.kept (h : Wr w p ao cap bs cnt) (hp : w'.heap[p]? = w.heap[p]?) (ha : ∀ b, blockOf ao = some b → w'.heap[b]? = w.heap[b]?) : Wr w' p ao cap bs cnt := by
  refine ⟨by rw [hp]; exact h.blk, ⟨h.own.1, ?_⟩, h.ne⟩
  rcases h.own.2 with h0 | ⟨g, cap', cur, hv, hb, hg, r⟩
  · exact .inl h0
  · refine .inr ⟨g, cap', cur, hv, hb, ?_, r⟩
    simp only [Value.slice.injEq, true_and] at hv
    rw [ha g (by simp [blockOf, hv.1])]
    exact hg

theorem Wr.blocks (h : Wr w p ao cap bs cnt) : ∀ b, blockOf ao = some b → b < w.heap.size := by
  intro b hb
  obtain ⟨ao1, cap1, hv, _, _, _, hs⟩ := owns_shape h.own
  simp only [Value.slice.injEq, true_and] at hv
  obtain ⟨rfl, rfl⟩ := hv
  cases ao with
  | none => cases hb
  | some a => cases hb; exact (hs a rfl).2.2

theorem Wr.stays (h : Wr w p ao cap bs cnt) {S : Nat → Prop} (hS : Stays S w w') (hp : ¬ S p) (ha : ∀ b, blockOf ao = some b → ¬ S b) : Wr w' p ao cap bs cnt :=
  h.kept (hS.block p h.lt hp) (fun b hb => hS.block b (h.blocks b hb) (ha b hb))

theorem Wr.drew (h : Wr w p ao cap bs cnt) : Wr w.drew p ao cap bs cnt := h.kept rfl (fun _ _ => rfl)
theorem Wr.drewN (h : Wr w p ao cap bs cnt) (n : Nat) : Wr (w.drewN n) p ao cap bs cnt := h.kept rfl (fun _ _ => rfl)

theorem block_setCell (w : World) (p i : Nat) (cs : Array Value) (t : TypeId) (u : Value) (h : w.heap[p]? = some (.cells cs t (0, 0))) :
    (w.setCell ⟨p, i, none⟩ u).heap[p]? = some (.cells (cs.setIfInBounds i u) t (0, 0)) := heap_setCell_same w p i cs t u h

theorem Wr.setCount (h : Wr w p ao cap bs cnt) (c : Nat) : Wr (w.setCell ⟨p, 1, none⟩ (.int .i64 (c : Int))) p ao cap bs c := by
  refine ⟨?_, ownsRow_setCell_other h.own (fun e => h.ne ?_) _, h.ne⟩
  · rw [block_setCell w p 1 _ _ _ h.blk]
    simp
  · cases ao with
    | none => simp [Value.ownBlock] at e
    | some a => simpa [Value.ownBlock, blockOf] using e

theorem Wr.setByte {g : Nat} (h : Wr w p (some ⟨g, 0, none⟩) cap bs cnt) (j y : Nat) : Wr (w.setCell ⟨g, j, none⟩ (.int .u8 (y : Int))) p (some ⟨g, 0, none⟩) cap (bs.set j y) cnt := by
  have hgp : g ≠ p := fun e => h.ne (by simp [blockOf, e])
  refine ⟨?_, ?_, h.ne⟩
  · rw [Below.heap_setCell w ⟨g, j, none⟩ _ p (fun e => hgp (by simpa using e.symm))]
    simpa using h.blk
  · have := (h.own.stored j (.int .u8 (y : Int))).1
    rw [byteVals_set] at this
    simpa using this

/-- Behind an append: the new slice is laid into the writer. -/
theorem Wr.setSlice (h : Wr w p ao cap bs cnt) {ao' : Option Addr} {cap' : Nat} {bs' : List Nat} (hg : w.grownBy w' (blockOf ao)) (hm : Moved w.heap.size ao ao') (n' : Nat) (hn : n' = bs'.length)
    (hown : w'.ownsRow 0 5 1 (.slice ao' n' cap') n' (byteVals bs')) : Wr (w'.setCell ⟨p, 0, none⟩ (.slice ao' n' cap')) p ao' cap' bs' cnt := by
  subst hn
  have hne : blockOf ao' ≠ some p := fun e => by
    rcases hm p e with h1 | h1
    · exact h.ne h1
    · have := h.lt; omega
  have hb : w'.heap[p]? = some (.cells #[.slice ao bs.length cap, .int .i64 (cnt : Int)] 51 (0, 0)) := by
    rw [hg.block p h.lt (fun e => h.ne e.symm)]; exact h.blk
  refine ⟨?_, ownsRow_setCell_other hown (fun e => hne ?_) _, hne⟩
  · rw [block_setCell w' p 0 _ _ _ hb]
    simp
  · cases ao' with
    | none => simp [Value.ownBlock] at e
    | some a => simpa [Value.ownBlock, blockOf] using e

end

theorem owns_drewN {w : World} {base e size : Nat} {v : Value} {n : Nat} {xs : List Value} (h : w.ownsRow base e size v n xs) (k : Nat) : (w.drewN k).ownsRow base e size v n xs := h

/-- What a writer's call may write: its own block and its row. -/
def foot (p : Nat) (ao : Option Addr) : Nat → Prop := fun k => k = p ∨ blockOf ao = some k

/-- A writer that holds the bits B. -/
def WrB (w : World) (p : Nat) (ao : Option Addr) (B : List Nat) : Prop := ∃ cap, Wr w p ao cap (pack B) B.length

theorem Stays.foot {p : Nat} {ao ao' : Option Addr} {a b c : World} (h : Stays (foot p ao) a b) (k : Stays (foot p ao') b c) (hm : Moved a.heap.size ao ao') : Stays (foot p ao) a c :=
  h.trans k (fun i hi ht => by
    rcases ht with ht | ht
    · exact .inl ht
    · rcases hm i ht with h1 | h1
      · exact .inr h1
      · omega)

theorem Stays.drewN {S : Nat → Prop} {a w : World} (h : Stays S a w) (n : Nat) : Stays S a (w.drewN n) := ⟨h.os, h.tape, h.output, h.size, h.block⟩

theorem WrB.lt {w : World} {p : Nat} {ao : Option Addr} {B : List Nat} (h : WrB w p ao B) : p < w.heap.size := by obtain ⟨_, h⟩ := h; exact h.lt
theorem WrB.blocks {w : World} {p : Nat} {ao : Option Addr} {B : List Nat} (h : WrB w p ao B) : ∀ b, blockOf ao = some b → b < w.heap.size := by obtain ⟨_, h⟩ := h; exact h.blocks
theorem WrB.stays {w w' : World} {p : Nat} {ao : Option Addr} {B : List Nat} (h : WrB w p ao B) {S : Nat → Prop} (hS : Stays S w w') (hp : ¬ S p) (ha : ∀ b, blockOf ao = some b → ¬ S b) : WrB w' p ao B := by
  obtain ⟨cap, h⟩ := h; exact ⟨cap, h.stays hS hp ha⟩


/-- One round of 'put': t bits more in the last byte. -/
theorem WrB.step {wx : World} {p g cap l t : Nat} {B : List Nat} (h : Wr wx p (some ⟨g, 0, none⟩) cap (packN B l) B.length) (h0 : 0 < l) (h1 : 8 * l ≤ B.length + 8) (ht : 0 < t) (h2 : B.length + t ≤ 8 * l)
    (x : Nat) (c : Int) (hc : c = ((B.length + t : Nat) : Int)) : WrB ((wx.setCell ⟨g, l - 1, none⟩ (.int .u8 ((byteOf B (l - 1) + x % 2 ^ t * 2 ^ (8 * l - B.length - t) : Nat) : Int))).setCell ⟨p, 1, none⟩ (.int .i64 c)) p (some ⟨g, 0, none⟩) (B ++ bitsOf x t) := by
  subst hc
  refine ⟨cap, ?_⟩
  have hs := (h.setByte (l - 1) (byteOf B (l - 1) + x % 2 ^ t * 2 ^ (8 * l - B.length - t))).setCount (B.length + t)
  have e := packN_step B (bitsOf x t) (l - 1) (by omega) (by rw [bitsOf_length]; omega)
  rw [num_bitsOf, bitsOf_length, show l - 1 + 1 = l from by omega, show 8 * (l - 1) + 8 = 8 * l from by omega] at e
  rw [← e] at hs
  unfold pack
  rw [List.length_append, bitsOf_length, show (B.length + t + 7) / 8 = l from by omega]
  exact hs

theorem WrB.step1 {wx : World} {p g cap l : Nat} {B : List Nat} (h : Wr wx p (some ⟨g, 0, none⟩) cap (packN B l) B.length) (h0 : 0 < l) (h1 : 8 * l ≤ B.length + 8) (h2 : B.length < 8 * l)
    (x : Nat) (c : Int) (hc : c = ((8 * l : Nat) : Int)) : WrB ((wx.setCell ⟨g, l - 1, none⟩ (.int .u8 ((byteOf B (l - 1) + x % 2 ^ (8 * l - B.length) : Nat) : Int))).setCell ⟨p, 1, none⟩ (.int .i64 c)) p (some ⟨g, 0, none⟩) (B ++ bitsOf x (8 * l - B.length)) := by
  have hs := WrB.step h h0 h1 (show 0 < 8 * l - B.length by omega) (by omega) x c (by rw [hc]; omega)
  rw [Nat.sub_self, Nat.pow_zero, Nat.mul_one] at hs
  exact hs

theorem packN_full (B : List Nat) (h : B.length = 8 * (pack B).length) : packN B ((pack B).length + 1) = pack B ++ [0] := by
  rw [pack_length] at h ⊢
  rw [packN_past B _ 1 (by omega)]
  rfl

end Go.Proofs.Ytkhdkmdiblomhaa

namespace Go.Proofs.Ytkhdkmdiblomhaa
open Go.RowKit
set_option linter.unusedSimpArgs false
set_option linter.unusedVariables false


theorem pow_le_of (k m : Nat) (h : k ≤ m) : (2 : Nat) ^ k ≤ 2 ^ m := Nat.pow_le_pow_right (by decide) h

/-- 'n & (1<<k - 1)'. -/
theorem mask_u64 (n k : Nat) (hn : n < 18446744073709551616) (hk : k ≤ 63) :
    bits BinOp.and IntKind.u64 (n : Int) (IntKind.u64.wrap (IntKind.u64.wrap (2 ^ k) - 1)) = ((n % 2 ^ k : Nat) : Int) := by
  have h1 : (2 : Nat) ^ k ≤ 2 ^ 63 := pow_le_of k 63 hk
  have h0 : 0 < (2 : Nat) ^ k := Nat.two_pow_pos k
  have e1 : ((2 : Int) ^ k) = ((2 ^ k : Nat) : Int) := by simp
  have e : IntKind.u64.wrap (IntKind.u64.wrap (2 ^ k) - 1) = ((2 ^ k - 1 : Nat) : Int) := by
    rw [IntKind.wrap_u64, IntKind.wrap_u64, e1]
    omega
  rw [e, u64_and_nat n (2 ^ k - 1) hn (by omega), Nat.and_two_pow_sub_one_eq_mod]

/-- 'b |= byte(part << j)', part of k bits, where b has nothing in its k + j lowest bits. -/
theorem or_u8 (x part k j : Nat) (q : Nat) (hx : x = q * 2 ^ (k + j)) (hx2 : x < 256) (hp : part < 2 ^ k) (hkj : k + j ≤ 8) :
    bits BinOp.or IntKind.u8 (x : Int) (IntKind.u64.wrap ((part : Int) * 2 ^ j) % 256) = ((x + part * 2 ^ j : Nat) : Int) := by
  have h1 : part * 2 ^ j < 2 ^ (k + j) := by
    rw [Nat.pow_add]
    exact Nat.mul_lt_mul_of_pos_right hp (Nat.two_pow_pos j)
  have h2 : (2 : Nat) ^ (k + j) ≤ 2 ^ 8 := pow_le_of _ 8 hkj
  have e1 : (part : Int) * 2 ^ j = ((part * 2 ^ j : Nat) : Int) := by simp
  have e : IntKind.u64.wrap ((part : Int) * 2 ^ j) % 256 = ((part * 2 ^ j : Nat) : Int) := by
    rw [IntKind.wrap_u64, e1]
    omega
  rw [e, u8_or_nat _ _ hx2 (by omega), nat_join (k + j) x _ (by rw [hx]; simp) h1]

theorem i64_and7 (n : Int) : bits BinOp.and IntKind.i64 n 7 = n % 8 := by
  show IntKind.i64.wrap ((BitVec.ofInt 64 n &&& BitVec.ofInt 64 7).toNat : Int) = _
  rw [BitVec.toNat_and, BitVec.toNat_ofInt, show (BitVec.ofInt 64 7).toNat = 2 ^ 3 - 1 from rfl, Nat.and_two_pow_sub_one_eq_mod, IntKind.wrap_i64]
  omega

/-- 'n<<t | next & (1<<t - 1)'. -/
theorem or_u64 (x y t : Nat) (hx : x * 2 ^ t < 18446744073709551616) (hy : y < 18446744073709551616) (ht : t ≤ 63) :
    bits BinOp.or IntKind.u64 (IntKind.u64.wrap ((x : Int) * 2 ^ t)) (bits BinOp.and IntKind.u64 (y : Int) (IntKind.u64.wrap (IntKind.u64.wrap (2 ^ t) - 1))) = ((x * 2 ^ t + y % 2 ^ t : Nat) : Int) := by
  have e : IntKind.u64.wrap ((x : Int) * 2 ^ t) = ((x * 2 ^ t : Nat) : Int) := by
    have e1 : (x : Int) * 2 ^ t = ((x * 2 ^ t : Nat) : Int) := by simp
    rw [IntKind.wrap_u64, e1]; omega
  have hp : y % 2 ^ t < 2 ^ t := Nat.mod_lt _ (Nat.two_pow_pos t)
  have h63 : (2 : Nat) ^ t ≤ 2 ^ 63 := pow_le_of t 63 ht
  rw [e, mask_u64 y t hy ht, u64_or_nat _ _ hx (by omega), nat_join t _ _ (by simp) hp]
end Go.Proofs.Ytkhdkmdiblomhaa

namespace Go.Proofs.Ytkhdkmdiblomhaa
open Go.RowKit
set_option linter.unusedSimpArgs false
set_option linter.unusedVariables false


theorem Try.info5 : (Try.prog.info? 5).map (fun i => (i.zero, i.size, i.bytes)) = some (some (.int .u8 0), 1, 1) := by kernel_rfl

/-- The stored byte, as the walk spells it. -/
theorem put_byte (B : List Nat) (n l k t : Nat) (hn : n < 18446744073709551616) (h01 : Bits01 B) (h0 : 0 < l) (h1 : 8 * l ≤ B.length + 8) (h2 : B.length + t ≤ 8 * l) :
    bits BinOp.or IntKind.u8 ((byteOf B (l - 1) : Nat) : Int) (IntKind.u64.wrap (bits BinOp.and IntKind.u64 ((n / 2 ^ k : Nat) : Int) (IntKind.u64.wrap (IntKind.u64.wrap (2 ^ t) - 1)) * 2 ^ (8 * l - B.length - t)) % 256)
      = ((byteOf B (l - 1) + (n / 2 ^ k) % 2 ^ t * 2 ^ (8 * l - B.length - t) : Nat) : Int) := by
  have hd : n / 2 ^ k < 18446744073709551616 := Nat.lt_of_le_of_lt (Nat.div_le_self _ _) hn
  rw [mask_u64 _ t hd (by omega)]
  obtain ⟨q, hq⟩ := byteOf_room B (l - 1) (by omega) (by omega)
  exact or_u8 _ _ t _ q (by rw [hq]; congr 2; omega) (byteOf_lt B h01 _) (Nat.mod_lt _ (Nat.two_pow_pos t)) (by omega)

theorem put_byte0 (B : List Nat) (n l t : Nat) (hn : n < 18446744073709551616) (h01 : Bits01 B) (h0 : 0 < l) (h1 : 8 * l ≤ B.length + 8) (h2 : B.length + t ≤ 8 * l) :
    bits BinOp.or IntKind.u8 ((byteOf B (l - 1) : Nat) : Int) (IntKind.u64.wrap (bits BinOp.and IntKind.u64 (n : Int) (IntKind.u64.wrap (IntKind.u64.wrap (2 ^ t) - 1)) * 2 ^ (8 * l - B.length - t)) % 256)
      = ((byteOf B (l - 1) + n % 2 ^ t * 2 ^ (8 * l - B.length - t) : Nat) : Int) := by
  have h := put_byte B n l 0 t hn h01 h0 h1 h2
  simpa using h

theorem put_byte1 (B : List Nat) (n l k : Nat) (hn : n < 18446744073709551616) (h01 : Bits01 B) (h0 : 0 < l) (h1 : 8 * l ≤ B.length + 8) (h2 : B.length ≤ 8 * l) :
    bits BinOp.or IntKind.u8 ((byteOf B (l - 1) : Nat) : Int) (IntKind.u64.wrap (bits BinOp.and IntKind.u64 ((n : Int) / 2 ^ k) (IntKind.u64.wrap (IntKind.u64.wrap (2 ^ (8 * l - B.length)) - 1))) % 256)
      = ((byteOf B (l - 1) + n / 2 ^ k % 2 ^ (8 * l - B.length) : Nat) : Int) := by
  have h := put_byte B n l k (8 * l - B.length) hn h01 h0 h1 (by omega)
  simpa using h

theorem cell_new (w : World) (v : Value) (t : TypeId) : (w.alloc (.cells #[v] t)).cell? ((Addr.mk w.heap.size 0 none).add 0) = some v := by
  have h : (Addr.mk w.heap.size 0 none).add 0 = ⟨w.heap.size, 0, none⟩ := by simp [Addr.add]
  rw [h]
  simp only [World.cell?, heap_alloc_new]
  rfl

theorem footrow {n g p : Nat} {ao : Option Addr} {j : Nat} (h : Moved n ao (some ⟨g, 0, none⟩)) : foot p ao (Addr.mk g j none).block ∨ n ≤ (Addr.mk g j none).block := by
  rcases h g rfl with h1 | h1
  · exact .inl (.inr h1)
  · exact .inr h1

set_option maxRecDepth 20000 in
set_option maxHeartbeats 1600000 in
theorem put_spec (p n r : Nat) (hn : n < 18446744073709551616) (hr : r ≤ 64) (w : World) (ao : Option Addr) (B : List Nat) (h01 : Bits01 B) (hB : B.length ≤ 10000000000000) (hw : WrB w p ao B) :
    Calls Try.prog 54 #[.pointer (some ⟨p, 0, none⟩), .int .u64 (n : Int), .int .i64 (r : Int)] w fun e w' =>
      e = .returned (.tuple #[]) ∧ ∃ ao', WrB w' p ao' (B ++ bitsOf n r) ∧ Stays (foot p ao) w w' ∧ Moved w.heap.size ao ao' := by
  obtain ⟨i0, hi, hz0, hz1, hz2⟩ := info_parts Try.info5
  go_enter Try.func54, Try.ntmps54
  go_wp2
  go_loopw [2] (fun t wr => ∃ (k : Nat) (ao' : Option Addr) (Bc : List Nat), k ≤ r ∧ t = .int .i64 (k : Int) ∧ WrB wr p ao' Bc ∧ Bits01 Bc ∧ Bc ++ bitsOf n k = B ++ bitsOf n r ∧ Stays (foot p ao) w wr ∧ Moved w.heap.size ao ao') (fun t _ => (intOf t).toNat)
  case atStart => exact ⟨r, ao, B, Nat.le_refl _, rfl, hw, h01, rfl, Stays.refl _ _, Moved.refl _ _⟩
  case round =>
    obtain ⟨k, ao', Bc, hk, rfl, ⟨cap, hW⟩, hc01, heq, hS, hM⟩ := hrel
    have hlen : Bc.length + k = B.length + r := by have := congrArg List.length heq; simpa [bitsOf_length] using this
    have hbig : Bc.length ≤ 10000000000064 := by omega
    have HE : Hid (Bc ++ bitsOf n k = B ++ bitsOf n r) := heq
    have hpl := pack_length Bc
    clear heq hlen hB hw
    by_cases h0 : 0 < k
    · by_cases hfull : Bc.length = 8 * (pack Bc).length
      · have hpf := packN_full Bc hfull
        generalize hL : (pack Bc).length = l0 at *
        have hne : ((Bc.length : Int) == 8 * (l0 : Int)) = true := by simp; omega
        have a0 := hW.c0
        have a1 := hW.c1
        have b0 := hW.f 0
        rw [hL] at a0
        have hown := hW.own
        rw [hL] at hown
        have hps := hW.lt
        have HP : Hid _ := hpf
        have HL : Hid _ := hL
        have hl40 : l0 ≤ 2000000000000 := by omega
        clear hpf hL hpl
        go_wp2
        go_quiet (fail)
        go_wp2_with (at_builtin; refine wpList_append_mine _ rfl _ _ 49 rfl 5 i0 (.int .u8 0) 1 Try.underlying49 hi hz0 hz1 hz2 rfl ao' cap l0 _ rfl (owns_alloc (owns_drewN hown _) _) ⟨wr.heap.size, 0, none⟩ 1 1 [.int .u8 0] rfl rfl ?ca ?cb ?cc ?cd ?ce)
        case ca =>
          intro j u hj
          match j, hj with
          | 0, hj => simp at hj; subst hj; exact (cell_new (wr.drewN nq) (.int .u8 0) 5)
        case cb => intro u hu; simp at hu; subst hu; rfl
        case cc => unfold maxLen; omega
        case cd => omega
        case ce =>
          intro ao2 cap2 w1 hown2 hgr hmv
          obtain ⟨l, hl⟩ : ∃ l, l = l0 + 1 := ⟨_, rfl⟩
          have hWa : Wr ((wr.drewN nq).alloc (.cells #[.int .u8 0] 5)) p ao' cap (pack Bc) Bc.length := (hW.drewN nq).kept (Below.heap_alloc _ _ _ hps) (fun b hb => Below.heap_alloc _ _ _ (hW.blocks b hb))
          have q0 : w1.cell? ⟨p, 0, none⟩ = some (.slice ao' l0 cap) := by
            rw [World.cell?_of_block (hgr.block p hWa.lt (fun e => hW.ne e.symm)), hWa.c0, HL.out]
          have qf : w1.frozen? ⟨p, 0, none⟩ = false := by
            rw [World.frozen?_of_block (hgr.block p hWa.lt (fun e => hW.ne e.symm)), hWa.f 0]
          have hWx : Wr (w1.setCell ⟨p, 0, none⟩ (.slice ao2 l cap2)) p ao2 cap2 (packN Bc l) Bc.length := by
            have e : packN Bc l = pack Bc ++ [0] := by rw [hl]; exact HP.out
            refine hWa.setSlice hgr (by simpa using hmv) l (by rw [packN_length]) ?_
            rw [e, byteVals_append, hl]
            exact hown2
          have hSx : Stays (foot p ao) w (w1.setCell ⟨p, 0, none⟩ (.slice ao2 l cap2)) := by
            have s1 : Stays (foot p ao') wr w1 := by
              refine Stays.trans (T := foot p ao') (b := (wr.drewN nq).alloc (.cells #[.int .u8 0] 5)) ?_ (Stays.of_grown hgr (fun b hb => .inr hb)) (fun i _ h => h)
              exact ⟨rfl, rfl, rfl, by simp, fun i hi _ => Below.heap_alloc _ _ _ hi⟩
            exact (hS.foot s1 hM).setCell _ _ (.inl (.inl rfl))
          have hMx : Moved w.heap.size ao ao2 := hM.trans hmv (by have := hS.size; simp; omega)
          rw [← hl]
          have hl0 : 0 < l := by omega
          have hl1 : 8 * l ≤ Bc.length + 8 := by omega
          have hl2 : Bc.length < 8 * l := by omega
          clear hl hown2 hgr hmv hWa hfull hne a0 a1 b0 hown hW HP HL hS hM
          go_wp2
          generalize hwx : World.setCell _ _ _ = wx at *
          clear hwx q0 qf
          have hS := hSx
          have hM := hMx
          have hWl := hWx
          clear hSx hMx hWx
          obtain ⟨g, rfl, hgp, hglt, hlc, hcm⟩ := hWl.row (by rw [packN_length]; omega)
          have c0 := hWl.c0
          have c1 := hWl.c1
          have f1 := hWl.f 1
          have hcg := hWl.cg (l - 1) (by rw [packN_length]; omega)
          have hfg := hWl.fg (l - 1)
          rw [packN_length] at c0
          have ex : (packN Bc l)[l - 1]'(by rw [packN_length]; omega) = byteOf Bc (l - 1) := by simp [packN]
          rw [ex] at hcg
          have HM := hM
          clear ex hlc hcm hgp
          have hne : True := trivial
          by_cases hrk : (k : Int) < 8 * (l : Int) - Bc.length
          · skip
            go_quiet (fail)
            go_wp2
            go_quiet (fail)
            go_wp2
            go_region
            rw [put_byte0 Bc n l k hn hc01 hl0 hl1 (by omega)]
            generalize hw2 : World.setCell _ _ _ = w2
            have hW2 : Wr w2 p (some ⟨g, 0, none⟩) cap2 ((packN Bc l).set (l - 1) (byteOf Bc (l - 1) + n % 2 ^ k * 2 ^ (8 * l - Bc.length - k))) Bc.length := by rw [← hw2]; exact (hWl.drewN _).setByte (l - 1) _
            have d1 := hW2.c1
            have e1 := hW2.f 1
            have HW2 : Hid _ := hw2
            clear hw2 c0 c1 f1 hcg hfg hne hW2
            go_wp2
            go_roundw
            case rel =>
              have hw2 := HW2.out
              subst hw2
              refine ⟨0, some ⟨g, 0, none⟩, Bc ++ bitsOf n k, by omega, by go_num, ?_, hc01.append (bitsOf_01 _ _), ?_, ?_, HM⟩
              · exact WrB.step (hWl.drewN _) hl0 hl1 h0 (by omega) n _ (by omega)
              · have := HE.out
                simpa [bitsOf] using this
              · exact ((hS.drewN _).setCell _ _ (footrow hM)).setCell _ _ (.inl (.inl rfl))
            case measure => simp [intOf]; omega
          · skip
            go_quiet (fail)
            go_wp2
            go_quiet (fail)
            go_wp2
            go_region
            rw [put_byte1 Bc n l (k - (8 * l - Bc.length)) hn hc01 hl0 hl1 (by omega)]
            generalize hw2 : World.setCell _ _ _ = w2
            have hW2 : Wr w2 p (some ⟨g, 0, none⟩) cap2 ((packN Bc l).set (l - 1) (byteOf Bc (l - 1) + n / 2 ^ (k - (8 * l - Bc.length)) % 2 ^ (8 * l - Bc.length))) Bc.length := by rw [← hw2]; exact (hWl.drewN _).setByte (l - 1) _
            have d1 := hW2.c1
            have e1 := hW2.f 1
            have HW2 : Hid _ := hw2
            clear hw2 c0 c1 f1 hcg hfg hne hW2
            go_wp2
            go_roundw
            case rel =>
              have hw2 := HW2.out
              subst hw2
              refine ⟨k - (8 * l - Bc.length), some ⟨g, 0, none⟩, Bc ++ bitsOf (n / 2 ^ (k - (8 * l - Bc.length))) (8 * l - Bc.length), by omega, by go_num, ?_, hc01.append (bitsOf_01 _ _), ?_, ?_, HM⟩
              · exact WrB.step1 (hWl.drewN _) hl0 hl1 hl2 (n / 2 ^ (k - (8 * l - Bc.length))) _ (by omega)
              · have := HE.out
                rw [List.append_assoc, ← bitsOf_add, show 8 * l - Bc.length + (k - (8 * l - Bc.length)) = k from by omega]
                exact this
              · exact ((hS.drewN _).setCell _ _ (footrow hM)).setCell _ _ (.inl (.inl rfl))
            case measure => simp [intOf]; omega
      · have hl0 : 0 < (pack Bc).length := by omega
        have hl1 : 8 * (pack Bc).length ≤ Bc.length + 8 := by omega
        have hl2 : Bc.length < 8 * (pack Bc).length := by omega
        have hWl : Wr wr p ao' cap (packN Bc (pack Bc).length) Bc.length := by rw [hpl]; exact hW
        generalize hL : (pack Bc).length = l at *
        clear hpl
        obtain ⟨g, rfl, hgp, hglt, hlc, hcm⟩ := hWl.row (by rw [packN_length]; omega)
        have c0 := hWl.c0
        have c1 := hWl.c1
        have f1 := hWl.f 1
        have hcg := hWl.cg (l - 1) (by rw [packN_length]; omega)
        have hfg := hWl.fg (l - 1)
        rw [packN_length] at c0
        have ex : (packN Bc l)[l - 1]'(by rw [packN_length]; omega) = byteOf Bc (l - 1) := by simp [packN]
        rw [ex] at hcg
        have HM := hM
        have hne : ((Bc.length : Int) == 8 * (l : Int)) = false := by simp; omega
        clear hfull hL ex hW hlc hcm hgp
        by_cases hrk : (k : Int) < 8 * (l : Int) - Bc.length
        · go_wp2
          go_quiet (fail)
          go_wp2
          go_quiet (fail)
          go_wp2
          go_quiet (fail)
          go_wp2
          go_region
          rw [put_byte0 Bc n l k hn hc01 hl0 hl1 (by omega)]
          generalize hw2 : World.setCell _ _ _ = w2
          have hW2 : Wr w2 p (some ⟨g, 0, none⟩) cap ((packN Bc l).set (l - 1) (byteOf Bc (l - 1) + n % 2 ^ k * 2 ^ (8 * l - Bc.length - k))) Bc.length := by rw [← hw2]; exact (hWl.drewN _).setByte (l - 1) _
          have d1 := hW2.c1
          have e1 := hW2.f 1
          have HW2 : Hid _ := hw2
          clear hw2 c0 c1 f1 hcg hfg hne hW2
          go_wp2
          go_roundw
          case rel =>
            have hw2 := HW2.out
            subst hw2
            refine ⟨0, some ⟨g, 0, none⟩, Bc ++ bitsOf n k, by omega, by go_num, ?_, hc01.append (bitsOf_01 _ _), ?_, ?_, HM⟩
            · exact WrB.step (hWl.drewN _) hl0 hl1 h0 (by omega) n _ (by omega)
            · have := HE.out
              simpa [bitsOf] using this
            · exact ((hS.drewN _).setCell _ _ (footrow hM)).setCell _ _ (.inl (.inl rfl))
          case measure => simp [intOf]; omega
        · go_wp2
          go_quiet (fail)
          go_wp2
          go_quiet (fail)
          go_wp2
          go_quiet (fail)
          go_wp2
          go_region
          rw [put_byte1 Bc n l (k - (8 * l - Bc.length)) hn hc01 hl0 hl1 (by omega)]
          generalize hw2 : World.setCell _ _ _ = w2
          have hW2 : Wr w2 p (some ⟨g, 0, none⟩) cap ((packN Bc l).set (l - 1) (byteOf Bc (l - 1) + n / 2 ^ (k - (8 * l - Bc.length)) % 2 ^ (8 * l - Bc.length))) Bc.length := by rw [← hw2]; exact (hWl.drewN _).setByte (l - 1) _
          have d1 := hW2.c1
          have e1 := hW2.f 1
          have HW2 : Hid _ := hw2
          clear hw2 c0 c1 f1 hcg hfg hne hW2
          go_wp2
          go_roundw
          case rel =>
            have hw2 := HW2.out
            subst hw2
            refine ⟨k - (8 * l - Bc.length), some ⟨g, 0, none⟩, Bc ++ bitsOf (n / 2 ^ (k - (8 * l - Bc.length))) (8 * l - Bc.length), by omega, by go_num, ?_, hc01.append (bitsOf_01 _ _), ?_, ?_, HM⟩
            · exact WrB.step1 (hWl.drewN _) hl0 hl1 hl2 (n / 2 ^ (k - (8 * l - Bc.length))) _ (by omega)
            · have := HE.out
              rw [List.append_assoc, ← bitsOf_add, show 8 * l - Bc.length + (k - (8 * l - Bc.length)) = k from by omega]
              exact this
            · exact ((hS.drewN _).setCell _ _ (footrow hM)).setCell _ _ (.inl (.inl rfl))
          case measure => simp [intOf]; omega
    · obtain rfl : k = 0 := by omega
      go_wp2
      go_end0
      refine ⟨rfl, ao', ⟨cap, ?_⟩, hS, hM⟩
      have := HE.out
      simp only [bitsOf, List.append_nil] at this
      rw [← this]
      exact hW
end Go.Proofs.Ytkhdkmdiblomhaa
