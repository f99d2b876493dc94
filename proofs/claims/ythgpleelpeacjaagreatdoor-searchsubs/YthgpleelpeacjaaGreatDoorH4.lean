/- Own text. -/
import Derived.WalkLawsBesides
import Derived.RegionTactic
import Derived.Deep.QuietTactic
import Derived.BigQuiet
import Derived.Outline
import Derived.Test.YthgpleelpeacjaaGreatDoorRows
import Derived.Test.YthgpleelpeacjaaGreatDoorH2
import Derived.Test.YthgpleelpeacjaaGreatDoorH3
import Derived.Laws.MathBits
import Derived.Deep.OwnRows
import Derived.Below
import Derived.Deep.RegionHeld
import Derived.Deep.RegionHeld3
import Derived.Deep.CutRange
import Derived.Deep.RegionWith
import Derived.Deep.LoopGhost
set_option linter.unusedSimpArgs false
set_option linter.unusedVariables false
set_option maxRecDepth 20000
set_option maxHeartbeats 12800000
namespace Go.Proofs.YthgpleelpeacjaaGreatDoor
open Go.RowKit
theorem Tryz.info5 : (Tryz.prog.info? 5).map (fun i => (i.zero, i.size, i.bytes)) = some (some (.int .u8 0), 1, 1) := by kernel_rfl
theorem cell_new (w : World) (v : Value) (t : TypeId) : (w.alloc (.cells #[v] t)).cell? ((Addr.mk w.heap.size 0 none).add 0) = some v := by
 have h : (Addr.mk w.heap.size 0 none).add 0 = ⟨w.heap.size, 0, none⟩ := by simp [Addr.add]
 rw [h]
 simp only [World.cell?, heap_alloc_new]
 rfl
def sbits (l : List Nat) : List Nat := l.flatMap fun b => bitsOf b 8
def bytesOf (s : ByteArray) : List Nat := s.data.toList.map UInt8.toNat
def bitsAt (s : ByteArray) (at_ k : Nat) : Nat := num (((sbits (bytesOf s)).drop at_).take k)
def Rd (w : World) (q : Nat) (s : ByteArray) (at_ : Nat) : Prop := w.heap[q]? = some (.cells #[.int .i64 (at_ : Int), .int .i64 (8 * (s.size : Int)), .string s] 144 (0, 0))
def only (q : Nat) : Nat → Prop := fun k => k = q
theorem ret_int {k : IntKind} {a b : Int} (h : a = b) : Ending.returned (.int k a) = .returned (.int k b) := by rw [h]
def foldN (n : Int) : Nat := if 0 ≤ n then (2 * n).toNat else (-(2 * n) - 1).toNat
theorem foldN_pos (n : Int) (h : 0 ≤ n) : (foldN n : Int) = 2 * n := by unfold foldN; rw [if_pos h]; omega
theorem foldN_neg (n : Int) (h : n < 0) : (foldN n : Int) = -(2 * n) - 1 := by unfold foldN; rw [if_neg (by omega)]; omega
theorem foldN_lt (n : Int) (h1 : -9223372036854775808 ≤ n) (h2 : n ≤ 9223372036854775807) : foldN n < 18446744073709551616 := by
 by_cases h : 0 ≤ n
 ·have := foldN_pos n h; omega
 ·have := foldN_neg n (by omega); omega
theorem xor_ones (x : Nat) (h : x < 18446744073709551616) : x ^^^ 18446744073709551615 = 18446744073709551615 - x := by
 apply Nat.eq_of_testBit_eq
 intro i
 have e : (18446744073709551615 : Nat) - x = 2 ^ 64 - (x + 1) := by omega
 rw [e, Nat.testBit_two_pow_sub_succ (by omega), Nat.testBit_xor, show (18446744073709551615 : Nat) = 2 ^ 64 - 1 from rfl, Nat.testBit_two_pow_sub_one]
 by_cases hi : i < 64
 ·simp [hi]
 ·have : x.testBit i = false := Nat.testBit_lt_two_pow (Nat.lt_of_lt_of_le h (Nat.pow_le_pow_right (n := 2) (by decide) (show 64 ≤ i by omega)))
  simp [hi, this]
theorem fold_spec (n : Int) (h1 : -9223372036854775808 ≤ n) (h2 : n ≤ 9223372036854775807) (w : World) :
  Calls Tryz.prog 147 #[.int .i64 n] w fun e w' => e = .returned (.int .u64 (foldN n : Int)) ∧ w' = w := by
 by_cases h0 : 0 ≤ n
 ·go_enter Tryz.func147, Tryz.ntmps147
  go_wp2
  go_ret
  refine ⟨ret_int ?_, rfl⟩
  rw [foldN_pos n h0]; omega
 ·go_enter Tryz.func147, Tryz.ntmps147
  go_wp2
  go_ret
  refine ⟨ret_int ?_, rfl⟩
  rw [foldN_neg n (by omega)]; omega
theorem div_cast (x k : Nat) : (x : Int) / 2 ^ k = ((x / 2 ^ k : Nat) : Int) := by simp
def lead (L : List Nat) : Nat := (L.takeWhile (· == 0)).length
def ahead (s : ByteArray) (at_ : Nat) : List Nat := (sbits (bytesOf s)).drop at_
theorem foot_below {N p : Nat} {ao : Option Addr} {w w' : World} (h : Stays (foot p ao) w w') (hN : N ≤ w.heap.size) (hp : N ≤ p) (ha : ∀ b, blockOf ao = some b → N ≤ b) : Below N w w' :=
 h.below hN (fun i hi hf => by
  rcases hf with hf | hf
  ·omega
  ·have := ha i hf; omega)
theorem ret_bool {a b : Bool} (h : a = b) : Ending.returned (.bool a) = .returned (.bool b) := by rw [h]
structure Xw (w : World) (x : Nat) (ao : Option Addr) (cap : Nat) (B : List Nat) : Prop where
 blk : w.heap[x]? = some (.cells #[.slice ao B.length cap] 126 (0, 0))
 own : w.ownsRow 0 5 1 (.slice ao B.length cap) B.length (byteVals B)
 ne : blockOf ao ≠ some x
section
variable {w w' : World} {x : Nat} {ao : Option Addr} {cap : Nat} {B : List Nat}
theorem Xw.c0 (h : Xw w x ao cap B) : w.cell? ⟨x, 0, none⟩ = some (.slice ao B.length cap) := by simp [World.cell?, h.blk]
theorem Xw.f (h : Xw w x ao cap B) (o : Nat) : w.frozen? ⟨x, o, none⟩ = false := by simp [World.frozen?, h.blk]
theorem Xw.lt (h : Xw w x ao cap B) : x < w.heap.size := lt_of_block h.blk
theorem Xw.kept (h : Xw w x ao cap B) (hp : w'.heap[x]? = w.heap[x]?) (ha : ∀ b, blockOf ao = some b → w'.heap[b]? = w.heap[b]?) : Xw w' x ao cap B := by
 refine ⟨by rw [hp]; exact h.blk, ⟨h.own.1, ?_⟩, h.ne⟩
 rcases h.own.2 with h0 | ⟨g, cap', cur, hv, hb, hg, r⟩
 ·exact .inl h0
 ·refine .inr ⟨g, cap', cur, hv, hb, ?_, r⟩
  simp only [Value.slice.injEq, true_and] at hv
  rw [ha g (by simp [blockOf, hv.1])]
  exact hg
theorem Xw.blocks (h : Xw w x ao cap B) : ∀ b, blockOf ao = some b → b < w.heap.size := by
 intro b hb
 obtain ⟨ao1, cap1, hv, _, _, _, hs⟩ := owns_shape h.own
 simp only [Value.slice.injEq, true_and] at hv
 obtain ⟨rfl, rfl⟩ := hv
 cases ao with
 | none => cases hb
 | some a => cases hb; exact (hs a rfl).2.2
theorem Xw.stays (h : Xw w x ao cap B) {S : Nat → Prop} (hS : Stays S w w') (hp : ¬ S x) (ha : ∀ b, blockOf ao = some b → ¬ S b) : Xw w' x ao cap B :=
 h.kept (hS.block x h.lt hp) (fun b hb => hS.block b (h.blocks b hb) (ha b hb))
theorem Xw.setSlice (h : Xw w x ao cap B) {ao' : Option Addr} {cap' : Nat} {B' : List Nat} (hg : w.grownBy w' (blockOf ao)) (hm : Moved w.heap.size ao ao') (n' : Nat) (hn : n' = B'.length)
  (hown : w'.ownsRow 0 5 1 (.slice ao' n' cap') n' (byteVals B')) : Xw (w'.setCell ⟨x, 0, none⟩ (.slice ao' n' cap')) x ao' cap' B' := by
 subst hn
 have hne : blockOf ao' ≠ some x := fun e => by
  rcases hm x e with h1 | h1
  ·exact h.ne h1
  ·have := h.lt; omega
 have hb : w'.heap[x]? = some (.cells #[.slice ao B.length cap] 126 (0, 0)) := by
  rw [hg.block x h.lt (fun e => h.ne e.symm)]; exact h.blk
 refine ⟨?_, ownsRow_setCell_other hown (fun e => hne ?_) _, hne⟩
 ·rw [block_setCell w' x 0 _ _ _ hb]
  simp
 ·cases ao' with
  | none => simp [Value.ownBlock] at e
  | some a => simpa [Value.ownBlock, blockOf] using e
theorem Xw.push (h : Xw w x ao cap B) {v : Nat} {w1 : World} {ao' : Option Addr} {cap' : Nat} (o : Obj)
  (hg : (w.alloc o).grownBy w1 (blockOf ao)) (hm : Moved (w.heap.size + 1) ao ao') (hown : w1.ownsRow 0 5 1 (.slice ao' (B.length + 1) cap') (B.length + 1) (byteVals B ++ [.int .u8 (v : Int)])) :
  Xw (w1.setCell ⟨x, 0, none⟩ (.slice ao' (B.length + 1) cap')) x ao' cap' (B ++ [v]) ∧ Stays (foot x ao) w (w1.setCell ⟨x, 0, none⟩ (.slice ao' (B.length + 1) cap')) ∧ Moved w.heap.size ao ao' := by
 have hX : Xw (w.alloc o) x ao cap B := h.kept (Below.heap_alloc _ _ _ h.lt) (fun b hb => Below.heap_alloc _ _ _ (h.blocks b hb))
 refine ⟨?_, ?_, fun b hb => ?_⟩
 ·refine hX.setSlice hg (by simpa using hm) (B.length + 1) (by simp) ?_
  rw [byteVals_append]
  exact hown
 ·have s1 : Stays (foot x ao) w w1 := by
   refine Stays.trans (T := foot x ao) (b := w.alloc o) ?_ (Stays.of_grown hg (fun b hb => .inr hb)) (fun i _ h => h)
   exact ⟨rfl, rfl, rfl, by simp, fun i hi _ => Below.heap_alloc _ _ _ hi⟩
  exact s1.setCell _ _ (.inl (.inl rfl))
 ·rcases hm b hb with h1 | h1
  ·exact .inl h1
  ·exact .inr (by omega)
theorem Xw.cells (h : Xw w x ao cap B) (o : Obj) {w1 : World} (hg : (w.alloc o).grownBy w1 (blockOf ao)) :
  w1.cell? ⟨x, 0, none⟩ = some (.slice ao B.length cap) ∧ w1.frozen? ⟨x, 0, none⟩ = false := by
 have hX : Xw (w.alloc o) x ao cap B := h.kept (Below.heap_alloc _ _ _ h.lt) (fun b hb => Below.heap_alloc _ _ _ (h.blocks b hb))
 exact ⟨by rw [World.cell?_of_block (hg.block x hX.lt (fun e => h.ne e.symm)), hX.c0], by rw [World.frozen?_of_block (hg.block x hX.lt (fun e => h.ne e.symm)), hX.f 0]⟩
end
def XwB (w : World) (x : Nat) (ao : Option Addr) (B : List Nat) : Prop := ∃ cap, Xw w x ao cap B
theorem XwB.lt {w : World} {x : Nat} {ao : Option Addr} {B : List Nat} (h : XwB w x ao B) : x < w.heap.size := by obtain ⟨_, h⟩ := h; exact h.lt
theorem XwB.blocks {w : World} {x : Nat} {ao : Option Addr} {B : List Nat} (h : XwB w x ao B) : ∀ b, blockOf ao = some b → b < w.heap.size := by obtain ⟨_, h⟩ := h; exact h.blocks
theorem XwB.stays {w w' : World} {x : Nat} {ao : Option Addr} {B : List Nat} (h : XwB w x ao B) {S : Nat → Prop} (hS : Stays S w w') (hp : ¬ S x) (ha : ∀ b, blockOf ao = some b → ¬ S b) : XwB w' x ao B := by
 obtain ⟨cap, h⟩ := h; exact ⟨cap, h.stays hS hp ha⟩
theorem one_new (w : World) (v : Value) (t : TypeId) : ∀ (j : Nat) (u : Value), [v][j]? = some u → (w.alloc (.cells #[v] t)).cell? ((Addr.mk w.heap.size 0 none).add j) = some u := by
 intro j u hj
 match j, hj with
 | 0, hj => simp at hj; subst hj; exact cell_new w _ t
theorem one_int (k : IntKind) (n : Int) : ∀ u ∈ [Value.int k n], u.oneCell' = true := by intro u hu; simp at hu; subst hu; rfl
theorem put_bit (n j : Nat) (hn : n < 18446744073709551616) : bits BinOp.and IntKind.u64 ((n : Int) / 2 ^ j) 1 = ((n / 2 ^ j % 2 : Nat) : Int) := by
 rw [div_cast]
 have hd : n / 2 ^ j ≤ n := Nat.div_le_self _ _
 have := u64_and_nat (n / 2 ^ j) 1 (by omega) (by decide)
 rw [nat_mask1] at this
 exact this
theorem refput_ok (x n k : Nat) (hk : k ≤ 64) (hn : n < 2 ^ k) (w : World) (ao : Option Addr) (B : List Nat) (hB : B.length ≤ 10000000000000) (hw : XwB w x ao B) :
  Calls Tryz.prog 150 #[.pointer (some ⟨x, 0, none⟩), .int .u64 (n : Int), .int .i64 (k : Int)] w fun e w' =>
   e = .returned (.int .i64 0) ∧ ∃ ao', XwB w' x ao' (B ++ bitsOf n k) ∧ Stays (foot x ao) w w' ∧ Moved w.heap.size ao ao' := by
 obtain ⟨i0, hi, hz0, hz1, hz2⟩ := info_parts Tryz.info5
 have h64 : n < 18446744073709551616 := Nat.lt_of_lt_of_le hn (pow_le_of k 64 hk)
 have hz : (n : Int) / 2 ^ k = 0 := by
  have : n / 2 ^ k = 0 := Nat.div_eq_of_lt hn
  rw [div_cast, this]; rfl
 by_cases hk64 : (k : Int) < 64
 all_goals
  go_enter Tryz.func150, Tryz.ntmps150
  go_wp2
  go_loopw [7] (fun t wr => ∃ (j : Nat) (ao' : Option Addr) (Bc : List Nat), j ≤ k ∧ t = .int .i64 ((j : Int) - 1) ∧ XwB wr x ao' Bc ∧ Bc ++ bitsOf n j = B ++ bitsOf n k ∧ Stays (foot x ao) w wr ∧ Moved w.heap.size ao ao') (fun t _ => (intOf t + 1).toNat)
  case atStart => exact ⟨k, ao, B, Nat.le_refl _, by go_num, hw, rfl, Stays.refl _ _, Moved.refl _ _⟩
  case round =>
   obtain ⟨j, ao', Bc, hj, rfl, ⟨cap, hX⟩, heq, hS, hM⟩ := hrel
   have hlen : Bc.length + j = B.length + k := by have := congrArg List.length heq; simpa [bitsOf_length] using this
   have hbig : Bc.length ≤ 10000000000064 := by omega
   have HE : Hid (Bc ++ bitsOf n j = B ++ bitsOf n k) := heq
   clear heq hlen hB hw hz hn
   by_cases h0 : 0 < j
   ·obtain ⟨m, rfl⟩ : ∃ m, j = m + 1 := ⟨j - 1, by omega⟩
    have hbit := put_bit n m h64
    have hb2 : n / 2 ^ m % 2 < 2 := Nat.mod_lt _ (by decide)
    obtain ⟨v, hv⟩ : ∃ v, v = n / 2 ^ m % 2 := ⟨_, rfl⟩
    rw [← hv] at hbit hb2
    have HV : Hid _ := hv
    clear hv
    have c0 := hX.c0
    have hown := hX.own
    have f0 := hX.f 0
    rw [show (((m + 1 : Nat) : Int) - 1) = (m : Int) from by omega]
    go_wp2_with (at_builtin; refine wpList_append_mine _ rfl _ _ 103 rfl 5 i0 (.int .u8 0) 1 Tryz.underlying103 hi hz0 hz1 hz2 rfl ao' cap Bc.length _ rfl (owns_alloc hown _) ⟨wr.heap.size, 0, none⟩ 1 1 [.int .u8 (v : Int)] rfl rfl (one_new _ _ _) (one_int _ _) ?cc ?cd ?ce)
    case cc => unfold maxLen; omega
    case cd => omega
    case ce =>
     intro ao2 cap2 w1 hown2 hgr hmv
     have hP := hX.push _ hgr (by simpa using hmv) hown2
     have hC := hX.cells _ hgr
     obtain ⟨q0, qf⟩ := hC
     clear hown2 hgr hmv c0 hown f0 hX
     go_wp2
     go_roundw
     case rel =>
      refine ⟨m, ao2, Bc ++ [v], by omega, by go_num, ⟨cap2, hP.1⟩, ?_, hS.foot hP.2.1 hM, hM.trans hP.2.2 hS.size⟩
      have e := HE.out
      rw [bitsOf, ← HV.out] at e
      rw [List.append_assoc]
      exact e
     case measure => simp only [intOf]; omega
   ·obtain rfl : j = 0 := by omega
    go_wp2
    go_ret
    refine ⟨rfl, ao', ⟨cap, ?_⟩, hS, hM⟩
    have := HE.out
    simp only [bitsOf, List.append_nil] at this
    rw [← this]
    exact hX
theorem refput_bad (x : Nat) (n k : Int) (hn : 0 ≤ n) (hn2 : n < 18446744073709551616) (hbad : k < 0 ∨ 64 < k ∨ (0 ≤ k ∧ k ≤ 64 ∧ 2 ^ k.toNat ≤ n)) (w : World) :
  Calls Tryz.prog 150 #[.pointer (some ⟨x, 0, none⟩), .int .u64 n, .int .i64 k] w fun e w' => e = .returned (.int .i64 11) ∧ w' = w := by
 rcases hbad with h | h | ⟨h1, h2, h3⟩
 ·go_enter Tryz.func150, Tryz.ntmps150
  go_wp2
  go_ret
  exact ⟨rfl, rfl⟩
 ·go_enter Tryz.func150, Tryz.ntmps150
  go_wp2
  go_ret
  exact ⟨rfl, rfl⟩
 ·have hk64 : k < 64 := by
   rcases Int.lt_or_le k 64 with h | h
   ·exact h
   ·obtain rfl : k = 64 := by omega
    have : (2 : Int) ^ (64 : Int).toNat = 18446744073709551616 := by decide
    omega
  have hp : 0 < (2 : Int) ^ k.toNat := Int.pow_pos (by decide)
  have hq : 1 ≤ n / 2 ^ k.toNat := Int.le_ediv_of_mul_le hp (by omega)
  have hz : (n / 2 ^ k.toNat != 0) = true := by simp; omega
  clear hq hp h2
  go_enter Tryz.func150, Tryz.ntmps150
  go_wp2
  go_ret
  exact ⟨rfl, rfl⟩
theorem refunary_bad (x : Nat) (n : Int) (hn : n < 0 ∨ 16777216 < n) (w : World) : Calls Tryz.prog 151 #[.pointer (some ⟨x, 0, none⟩), .int .i64 n] w fun e w' => e = .returned (.int .i64 11) ∧ w' = w := by
 rcases hn with hn | hn
 ·go_enter Tryz.func151, Tryz.ntmps151
  go_wp2
  go_ret
  exact ⟨rfl, rfl⟩
 ·go_enter Tryz.func151, Tryz.ntmps151
  go_wp2
  go_ret
  exact ⟨rfl, rfl⟩
theorem refunary_ok (x n : Nat) (hn : n ≤ 16777216) (w : World) (ao : Option Addr) (B : List Nat) (hB : B.length ≤ 9000000000000) (hw : XwB w x ao B) :
  Calls Tryz.prog 151 #[.pointer (some ⟨x, 0, none⟩), .int .i64 (n : Int)] w fun e w' =>
   e = .returned (.int .i64 0) ∧ ∃ ao', XwB w' x ao' (B ++ List.replicate n 0 ++ [1]) ∧ Stays (foot x ao) w w' ∧ Moved w.heap.size ao ao' := by
 obtain ⟨i0, hi, hz0, hz1, hz2⟩ := info_parts Tryz.info5
 go_enter Tryz.func151, Tryz.ntmps151
 go_wp2
 go_loopw [5] (fun t wr => ∃ (j : Nat) (ao' : Option Addr), j ≤ n ∧ t = .int .i64 (j : Int) ∧ XwB wr x ao' (B ++ List.replicate j 0) ∧ Stays (foot x ao) w wr ∧ Moved w.heap.size ao ao') (fun t _ => n - (intOf t).toNat)
 case atStart => exact ⟨0, ao, Nat.zero_le _, rfl, by simpa using hw, Stays.refl _ _, Moved.refl _ _⟩
 case round =>
  obtain ⟨j, ao', hj, rfl, ⟨cap, hX⟩, hS, hM⟩ := hrel
  obtain ⟨Bc, hBc⟩ : ∃ Bc, Bc = B ++ List.replicate j 0 := ⟨_, rfl⟩
  rw [← hBc] at hX
  have hl : Bc.length ≤ 9000016777216 := by rw [hBc]; simp; omega
  have HB : Hid _ := hBc
  clear hBc hw
  have c0 := hX.c0
  have hown := hX.own
  have f0 := hX.f 0
  by_cases h0 : (j : Int) < (n : Int)
  ·go_wp2_with (at_builtin; refine wpList_append_mine _ rfl _ _ 103 rfl 5 i0 (.int .u8 0) 1 Tryz.underlying103 hi hz0 hz1 hz2 rfl ao' cap Bc.length _ rfl (owns_alloc hown _) ⟨wr.heap.size, 0, none⟩ 1 1 [.int .u8 ((0 : Nat) : Int)] rfl rfl (one_new _ _ _) (one_int _ _) ?cc ?cd ?ce)
   case cc => unfold maxLen; omega
   case cd => omega
   case ce =>
    intro ao2 cap2 w1 hown2 hgr hmv
    have hP := hX.push _ hgr (by simpa using hmv) hown2
    obtain ⟨q0, qf⟩ := hX.cells _ hgr
    clear hown2 hgr hmv c0 hown f0 hX
    go_wp2
    go_roundw
    case rel =>
     refine ⟨j + 1, ao2, by omega, by go_num, ⟨cap2, ?_⟩, hS.foot hP.2.1 hM, hM.trans hP.2.2 hS.size⟩
     have e := hP.1
     rw [HB.out, List.append_assoc, ← List.replicate_succ'] at e
     have el : (B ++ List.replicate j 0).length + 1 = Bc.length + 1 := by rw [HB.out]
     rw [el] at e
     exact e
    case measure => simp only [intOf]; omega
  ·obtain rfl : j = n := by omega
   go_wp2_with (at_builtin; refine wpList_append_mine _ rfl _ _ 103 rfl 5 i0 (.int .u8 0) 1 Tryz.underlying103 hi hz0 hz1 hz2 rfl ao' cap Bc.length _ rfl (owns_alloc hown _) ⟨wr.heap.size, 0, none⟩ 1 1 [.int .u8 ((1 : Nat) : Int)] rfl rfl (one_new _ _ _) (one_int _ _) ?ch ?ci ?cj)
   case ch => unfold maxLen; omega
   case ci => omega
   case cj =>
    intro ao2 cap2 w1 hown2 hgr hmv
    have hP := hX.push _ hgr (by simpa using hmv) hown2
    obtain ⟨q0, qf⟩ := hX.cells _ hgr
    clear hown2 hgr hmv c0 hown f0 hX
    go_wp2
    go_ret
    refine ⟨rfl, ao2, ⟨cap2, ?_⟩, hS.foot hP.2.1 hM, hM.trans hP.2.2 hS.size⟩
    rw [← List.append_assoc, ← HB.out]
    exact hP.1
def asU (n : Int) : Nat := (n % 18446744073709551616).toNat
theorem asU_lt (n : Int) : asU n < 18446744073709551616 := by unfold asU; omega
theorem asU_wrap (n : Int) : IntKind.u64.wrap n = (asU n : Int) := by rw [IntKind.wrap_u64]; unfold asU; omega
theorem fits_out (n k : Int) (hk : k < 1 ∨ 64 < k) (w : World) : Calls Tryz.prog 29 #[.int .i64 n, .int .i64 k] w fun e w' => e = .returned (.bool false) ∧ w' = w := by
 rcases hk with hk | hk
 ·go_enter Tryz.func29, Tryz.ntmps29
  go_wp2
  go_ret
  exact ⟨rfl, rfl⟩
 ·go_enter Tryz.func29, Tryz.ntmps29
  go_wp2
  go_ret
  exact ⟨rfl, rfl⟩
theorem fits_in (n : Int) (h1 : -9223372036854775808 ≤ n) (h2 : n ≤ 9223372036854775807) (k : Nat) (hk1 : 1 ≤ k) (hk : k ≤ 64) (w : World) :
  Calls Tryz.prog 29 #[.int .i64 n, .int .i64 (k : Int)] w fun e w' => e = .returned (.bool (decide (-2 ^ (k - 1) ≤ n ∧ n < 2 ^ (k - 1)))) ∧ w' = w := by
 by_cases h64 : k = 64
 ·subst h64
  go_enter Tryz.func29, Tryz.ntmps29
  go_wp2
  go_ret
  refine ⟨ret_bool ?_, rfl⟩
  symm
  rw [decide_eq_true_iff]
  have e : (2 : Int) ^ (64 - 1) = 9223372036854775808 := by decide
  rw [e]
  omega
 ·have h62 : (2 : Nat) ^ (k - 1) ≤ 2 ^ 62 := pow_le_of (k - 1) 62 (by omega)
  have hA : (2 : Int) ^ (k - 1) = ((2 ^ (k - 1) : Nat) : Int) := by simp
  obtain ⟨A, hAd⟩ : ∃ A : Nat, A = 2 ^ (k - 1) := ⟨_, rfl⟩
  rw [← hAd] at hA h62
  have hA0 : 0 < A := by rw [hAd]; exact Nat.two_pow_pos _
  have hk64 : (k : Int) < 64 := by omega
  rw [hA]
  clear hAd
  by_cases g1 : -(A : Int) ≤ n
  ·by_cases g2 : n ≤ (A : Int) - 1
   ·go_enter Tryz.func29, Tryz.ntmps29
    go_wp2
    go_ret
    exact ⟨ret_bool (by simp; omega), rfl⟩
   ·go_enter Tryz.func29, Tryz.ntmps29
    go_wp2
    go_ret
    exact ⟨ret_bool (by simp; omega), rfl⟩
  ·go_enter Tryz.func29, Tryz.ntmps29
   go_wp2
   go_ret
   exact ⟨ret_bool (by simp; omega), rfl⟩
theorem mod_cast2 (a k : Nat) : (a : Int) % 2 ^ k = ((a % 2 ^ k : Nat) : Int) := by simp
theorem xsigned_width (x : Nat) (n k : Int) (hk : k < 1 ∨ 64 < k) (w : World) : Calls Tryz.prog 152 #[.pointer (some ⟨x, 0, none⟩), .int .i64 n, .int .i64 k] w fun e w' => e = .returned (.int .i64 11) ∧ w' = w := by
 go_enter Tryz.func152, Tryz.ntmps152
 go_wp2_with (go_at_call 29; refine (fits_out n k hk w).mono ?_; rintro e w' ⟨rfl, rfl⟩)
 go_ret
 exact ⟨rfl, rfl⟩
theorem xsigned_bad (x : Nat) (n : Int) (n1 : -9223372036854775808 ≤ n) (n2 : n ≤ 9223372036854775807) (k : Nat) (h1 : 1 ≤ k) (hk : k ≤ 64) (hb : n < -2 ^ (k - 1) ∨ 2 ^ (k - 1) ≤ n) (w : World) :
  Calls Tryz.prog 152 #[.pointer (some ⟨x, 0, none⟩), .int .i64 n, .int .i64 (k : Int)] w fun e w' => e = .returned (.int .i64 11) ∧ w' = w := by
 have hf : decide (-2 ^ (k - 1) ≤ n ∧ n < 2 ^ (k - 1)) = false := by rw [decide_eq_false_iff_not]; omega
 have HF : Hid _ := hf
 clear hf hb
 go_enter Tryz.func152, Tryz.ntmps152
 go_wp2_with fail
 refine (fits_in n n1 n2 k h1 hk w).mono ?_
 rw [HF.out]
 rintro e w' ⟨rfl, rfl⟩
 go_wp2
 go_ret
 exact ⟨rfl, rfl⟩
theorem xsigned_ok (x : Nat) (n : Int) (n1 : -9223372036854775808 ≤ n) (n2 : n ≤ 9223372036854775807) (k : Nat) (h1 : 1 ≤ k) (hk : k ≤ 64) (hb1 : -2 ^ (k - 1) ≤ n) (hb2 : n < 2 ^ (k - 1)) (w : World) (ao : Option Addr) (B : List Nat) (hB : B.length ≤ 9000000000000) (hw : XwB w x ao B) :
  Calls Tryz.prog 152 #[.pointer (some ⟨x, 0, none⟩), .int .i64 n, .int .i64 (k : Int)] w fun e w' =>
   e = .returned (.int .i64 0) ∧ ∃ ao', XwB w' x ao' (B ++ bitsOf (asU n) k) ∧ Stays (foot x ao) w w' ∧ Moved w.heap.size ao ao' := by
 have hf : decide (-2 ^ (k - 1) ≤ n ∧ n < 2 ^ (k - 1)) = true := by rw [decide_eq_true_iff]; exact ⟨hb1, hb2⟩
 have HF : Hid _ := hf
 have hwr := asU_wrap n
 have HN1 : Hid (-9223372036854775808 ≤ n) := n1
 have HN2 : Hid (n ≤ 9223372036854775807) := n2
 clear hf hb1 hb2 n1 n2
 by_cases h64 : k = 64
 ·subst h64
  go_enter Tryz.func152, Tryz.ntmps152
  go_wp2_with fail
  refine (fits_in n HN1.out HN2.out 64 h1 hk w).mono ?_
  rw [HF.out]
  rintro e w' ⟨rfl, rfl⟩
  go_wp2_with fail
  refine (refput_ok x (asU n) 64 (by decide) (asU_lt n) _ ao B (by omega) hw).mono ?_
  rintro e w2 ⟨rfl, ao', g1, g2, g3⟩
  go_wp2
  go_ret
  exact ⟨rfl, ao', g1, g2, g3⟩
 ·have hk64 : (k : Int) < 64 := by omega
  have hmask := mask_u64 (asU n) k (asU_lt n) (by omega)
  go_enter Tryz.func152, Tryz.ntmps152
  go_wp2_with fail
  refine (fits_in n HN1.out HN2.out k h1 hk w).mono ?_
  rw [HF.out]
  rintro e w' ⟨rfl, rfl⟩
  go_wp2_with fail
  rw [mod_cast2]
  refine (refput_ok x (asU n % 2 ^ k) k (by omega) (Nat.mod_lt _ (Nat.two_pow_pos k)) _ ao B (by omega) hw).mono ?_
  rw [bitsOf_mod _ k k (Nat.le_refl _)]
  rintro e w2 ⟨rfl, ao', g1, g2, g3⟩
  go_wp2
  go_ret
  exact ⟨rfl, ao', g1, g2, g3⟩
theorem xrice_width (x : Nat) (n k : Int) (hk : k < 0 ∨ 30 < k) (w : World) : Calls Tryz.prog 197 #[.pointer (some ⟨x, 0, none⟩), .int .i64 n, .int .i64 k] w fun e w' => e = .returned (.int .i64 11) ∧ w' = w := by
 rcases hk with hk | hk
 ·go_enter Tryz.func197, Tryz.ntmps197
  go_wp2
  go_ret
  exact ⟨rfl, rfl⟩
 ·go_enter Tryz.func197, Tryz.ntmps197
  go_wp2
  go_ret
  exact ⟨rfl, rfl⟩
theorem xrice_long (x : Nat) (n : Int) (h1 : -9223372036854775808 ≤ n) (h2 : n ≤ 9223372036854775807) (k : Nat) (hk : k ≤ 30) (hl : 16777216 < foldN n / 2 ^ k) (w : World) :
  Calls Tryz.prog 197 #[.pointer (some ⟨x, 0, none⟩), .int .i64 n, .int .i64 (k : Int)] w fun e w' => e = .returned (.int .i64 11) ∧ w' = w := by
 have hq : (16777216 : Int) < (foldN n : Int) / 2 ^ k := by rw [div_cast]; omega
 go_enter Tryz.func197, Tryz.ntmps197
 go_wp2_with (go_at_call 147; refine (fold_spec n h1 h2 w).mono ?_; rintro e w' ⟨rfl, rfl⟩)
 go_ret
 exact ⟨rfl, rfl⟩
theorem xrice_ok (x : Nat) (n : Int) (h1 : -9223372036854775808 ≤ n) (h2 : n ≤ 9223372036854775807) (k : Nat) (hk : k ≤ 30) (hl : foldN n / 2 ^ k ≤ 16777216)
  (w : World) (ao : Option Addr) (B : List Nat) (hB : B.length ≤ 8000000000000) (hw : XwB w x ao B) :
  Calls Tryz.prog 197 #[.pointer (some ⟨x, 0, none⟩), .int .i64 n, .int .i64 (k : Int)] w fun e w' =>
   e = .returned (.int .i64 0) ∧ ∃ ao', XwB w' x ao' (B ++ List.replicate (foldN n / 2 ^ k) 0 ++ [1] ++ bitsOf (foldN n) k) ∧ Stays (foot x ao) w w' ∧ Moved w.heap.size ao ao' := by
 obtain ⟨q, hq⟩ : ∃ q, q = foldN n / 2 ^ k := ⟨_, rfl⟩
 have hqi : (foldN n : Int) / 2 ^ k = (q : Int) := by rw [div_cast, hq]
 rw [← hq] at hl ⊢
 have hf := foldN_lt n h1 h2
 have hmask := mask_u64 (foldN n) k hf (by omega)
 have HQ : Hid _ := hq
 clear hq
 go_enter Tryz.func197, Tryz.ntmps197
 go_wp2_with fail
 refine (fold_spec n h1 h2 w).mono ?_
 rintro e w' ⟨rfl, rfl⟩
 go_wp2_with fail
 refine (fold_spec n h1 h2 _).mono ?_
 rintro e w1 ⟨rfl, rfl⟩
 go_wp2_with fail
 refine (refunary_ok x q hl _ ao B (by omega) hw).mono ?_
 rintro e w2 ⟨rfl, ao2, hw2, hs2, hm2⟩
 go_wp2_with fail
 rw [mod_cast2]
 refine (refput_ok x (foldN n % 2 ^ k) k (by omega) (Nat.mod_lt _ (Nat.two_pow_pos k)) _ ao2 _ (by simp; omega) hw2).mono ?_
 rw [bitsOf_mod _ k k (Nat.le_refl _)]
 rintro e w3 ⟨rfl, ao3, hw3, hs3, hm3⟩
 go_wp2
 go_ret
 exact ⟨rfl, ao3, hw3, hs2.foot hs3 hm2, hm2.trans hm3 hs2.size⟩
def putE (u k : Int) : Int := if 0 ≤ k ∧ k ≤ 64 ∧ u < 2 ^ k.toNat then 0 else 11
def putB (u k : Int) : List Nat := if 0 ≤ k ∧ k ≤ 64 ∧ u < 2 ^ k.toNat then bitsOf u.toNat k.toNat else []
def sigE (n k : Int) : Int := if 1 ≤ k ∧ k ≤ 64 ∧ -2 ^ (k.toNat - 1) ≤ n ∧ n < 2 ^ (k.toNat - 1) then 0 else 11
def sigB (n k : Int) : List Nat := if 1 ≤ k ∧ k ≤ 64 ∧ -2 ^ (k.toNat - 1) ≤ n ∧ n < 2 ^ (k.toNat - 1) then bitsOf (asU n) k.toNat else []
def unrE (n : Int) : Int := if 0 ≤ n ∧ n ≤ 16777216 then 0 else 11
def unrB (n : Int) : List Nat := if 0 ≤ n ∧ n ≤ 16777216 then List.replicate n.toNat 0 ++ [1] else []
def rcwE (n k : Int) : Int := if 0 ≤ k ∧ k ≤ 30 ∧ foldN n / 2 ^ k.toNat ≤ 16777216 then 0 else 11
def rcwB (n k : Int) : List Nat := if 0 ≤ k ∧ k ≤ 30 ∧ foldN n / 2 ^ k.toNat ≤ 16777216 then List.replicate (foldN n / 2 ^ k.toNat) 0 ++ [1] ++ bitsOf (foldN n) k.toNat else []
theorem putB_len (u k : Int) : (putB u k).length ≤ 17000000 := by unfold putB; split; (rw [bitsOf_length]; omega); simp
theorem sigB_len (n k : Int) : (sigB n k).length ≤ 17000000 := by unfold sigB; split; (rw [bitsOf_length]; omega); simp
theorem unrB_len (n : Int) : (unrB n).length ≤ 17000000 := by unfold unrB; split; (rw [List.length_append, List.length_replicate, List.length_singleton]; omega); simp
theorem rcwB_len (n k : Int) : (rcwB n k).length ≤ 17000000 := by
 unfold rcwB
 split
 ·rw [List.length_append, List.length_append, List.length_replicate, List.length_singleton, bitsOf_length]; omega
 ·simp
section
variable (w : World) (ao : Option Addr) (B : List Nat)
theorem xput_all (x : Nat) (u k : Int) (u1 : 0 ≤ u) (u2 : u ≤ 18446744073709551615) (hB : B.length ≤ 7000000000000) (hw : XwB w x ao B) :
  Calls Tryz.prog 150 #[.pointer (some ⟨x, 0, none⟩), .int .u64 u, .int .i64 k] w fun e w' => e = .returned (.int .i64 (putE u k)) ∧ ∃ ao', XwB w' x ao' (B ++ putB u k) ∧ Stays (foot x ao) w w' ∧ Moved w.heap.size ao ao' := by
 by_cases h : 0 ≤ k ∧ k ≤ 64 ∧ u < 2 ^ k.toNat
 ·unfold putE putB
  rw [if_pos h, if_pos h]
  obtain ⟨j, rfl⟩ : ∃ j : Nat, k = (j : Int) := ⟨k.toNat, by omega⟩
  obtain ⟨v, rfl⟩ : ∃ v : Nat, u = (v : Int) := ⟨u.toNat, by omega⟩
  have hv : v < 2 ^ j := by
   have e := h.2.2
   have e2 : (2 : Int) ^ (j : Int).toNat = ((2 ^ j : Nat) : Int) := by simp
   rw [e2] at e
   omega
  exact refput_ok x v j (by omega) hv w ao B (by omega) hw
 ·unfold putE putB
  rw [if_neg h, if_neg h]
  refine (refput_bad x u k u1 (by omega) (by omega) w).mono ?_
  rintro e w' ⟨rfl, rfl⟩
  exact ⟨rfl, ao, by simpa using hw, Stays.refl _ _, Moved.refl _ _⟩
theorem xsig_all (x : Nat) (n k : Int) (n1 : -9223372036854775808 ≤ n) (n2 : n ≤ 9223372036854775807) (hB : B.length ≤ 7000000000000) (hw : XwB w x ao B) :
  Calls Tryz.prog 152 #[.pointer (some ⟨x, 0, none⟩), .int .i64 n, .int .i64 k] w fun e w' => e = .returned (.int .i64 (sigE n k)) ∧ ∃ ao', XwB w' x ao' (B ++ sigB n k) ∧ Stays (foot x ao) w w' ∧ Moved w.heap.size ao ao' := by
 by_cases h : 1 ≤ k ∧ k ≤ 64 ∧ -2 ^ (k.toNat - 1) ≤ n ∧ n < 2 ^ (k.toNat - 1)
 ·unfold sigE sigB
  rw [if_pos h, if_pos h]
  obtain ⟨j, rfl⟩ : ∃ j : Nat, k = (j : Int) := ⟨k.toNat, by omega⟩
  exact xsigned_ok x n n1 n2 j (by omega) (by omega) h.2.2.1 h.2.2.2 w ao B (by omega) hw
 ·unfold sigE sigB
  rw [if_neg h, if_neg h]
  have fin : ∀ (e : Ending) (w' : World), e = .returned (.int .i64 11) ∧ w' = w → e = .returned (.int .i64 11) ∧ ∃ ao', XwB w' x ao' (B ++ []) ∧ Stays (foot x ao) w w' ∧ Moved w.heap.size ao ao' := by
   rintro e w' ⟨rfl, rfl⟩
   exact ⟨rfl, ao, by simpa using hw, Stays.refl _ _, Moved.refl _ _⟩
  by_cases hk : k < 1 ∨ 64 < k
  ·exact (xsigned_width x n k hk w).mono fin
  ·obtain ⟨j, rfl⟩ : ∃ j : Nat, k = (j : Int) := ⟨k.toNat, by omega⟩
   rw [Int.toNat_natCast] at h
   exact (xsigned_bad x n n1 n2 j (by omega) (by omega) (by omega) w).mono fin
theorem xunr_all (x : Nat) (n : Int) (hB : B.length ≤ 7000000000000) (hw : XwB w x ao B) :
  Calls Tryz.prog 151 #[.pointer (some ⟨x, 0, none⟩), .int .i64 n] w fun e w' => e = .returned (.int .i64 (unrE n)) ∧ ∃ ao', XwB w' x ao' (B ++ unrB n) ∧ Stays (foot x ao) w w' ∧ Moved w.heap.size ao ao' := by
 by_cases h : 0 ≤ n ∧ n ≤ 16777216
 ·unfold unrE unrB
  rw [if_pos h, if_pos h, ← List.append_assoc]
  obtain ⟨j, rfl⟩ : ∃ j : Nat, n = (j : Int) := ⟨n.toNat, by omega⟩
  exact refunary_ok x j (by omega) w ao B (by omega) hw
 ·unfold unrE unrB
  rw [if_neg h, if_neg h]
  refine (refunary_bad x n (by omega) w).mono ?_
  rintro e w' ⟨rfl, rfl⟩
  exact ⟨rfl, ao, by simpa using hw, Stays.refl _ _, Moved.refl _ _⟩
theorem xric_all (x : Nat) (n k : Int) (n1 : -9223372036854775808 ≤ n) (n2 : n ≤ 9223372036854775807) (hB : B.length ≤ 7000000000000) (hw : XwB w x ao B) :
  Calls Tryz.prog 197 #[.pointer (some ⟨x, 0, none⟩), .int .i64 n, .int .i64 k] w fun e w' => e = .returned (.int .i64 (rcwE n k)) ∧ ∃ ao', XwB w' x ao' (B ++ rcwB n k) ∧ Stays (foot x ao) w w' ∧ Moved w.heap.size ao ao' := by
 by_cases h : 0 ≤ k ∧ k ≤ 30 ∧ foldN n / 2 ^ k.toNat ≤ 16777216
 ·unfold rcwE rcwB
  rw [if_pos h, if_pos h, ← List.append_assoc, ← List.append_assoc]
  obtain ⟨j, rfl⟩ : ∃ j : Nat, k = (j : Int) := ⟨k.toNat, by omega⟩
  exact xrice_ok x n n1 n2 j (by omega) h.2.2 w ao B (by omega) hw
 ·unfold rcwE rcwB
  rw [if_neg h, if_neg h]
  have fin : ∀ (e : Ending) (w' : World), e = .returned (.int .i64 11) ∧ w' = w → e = .returned (.int .i64 11) ∧ ∃ ao', XwB w' x ao' (B ++ []) ∧ Stays (foot x ao) w w' ∧ Moved w.heap.size ao ao' := by
   rintro e w' ⟨rfl, rfl⟩
   exact ⟨rfl, ao, by simpa using hw, Stays.refl _ _, Moved.refl _ _⟩
  by_cases hk : k < 0 ∨ 30 < k
  ·exact (xrice_width x n k hk w).mono fin
  ·obtain ⟨j, rfl⟩ : ∃ j : Nat, k = (j : Int) := ⟨k.toNat, by omega⟩
   rw [Int.toNat_natCast] at h
   exact (xrice_long x n n1 n2 j (by omega) (by omega) w).mono fin
end
def getE (s : ByteArray) (a : Nat) (k : Int) : Int := if k < 0 ∨ 64 < k then 11 else if 8 * s.size < a + k.toNat then 10 else 0
def getV (s : ByteArray) (a : Nat) (k : Int) : Int := if getE s a k = 0 then (bitsAt s a k.toNat : Int) else 0
def getA (s : ByteArray) (a : Nat) (k : Int) : Nat := if getE s a k = 0 then a + k.toNat else a
def unaE (s : ByteArray) (a : Nat) : Int := if 16777216 < lead (ahead s a) then 11 else if lead (ahead s a) = 8 * s.size - a then 10 else 0
def unaV (s : ByteArray) (a : Nat) : Int := if unaE s a = 0 then (lead (ahead s a) : Int) else 0
def unaA (s : ByteArray) (a : Nat) : Nat := if unaE s a = 0 then a + lead (ahead s a) + 1 else a
def frN (b o r i : Nat) : Nat := i * (b / 2 ^ o) - r
def partN (l : List Int) (b o r i : Nat) : List Int := (l.drop (frN b o r i)).take (frN b o r (i + 1) - frN b o r i)
abbrev cutOk (b r o : Int) : Prop := 0 ≤ o ∧ o ≤ 15 ∧ 1 ≤ b ∧ b ≤ 65535 ∧ 0 ≤ r ∧ r ≤ 32 ∧ b % 2 ^ o.toNat = 0 ∧ r ≤ b / 2 ^ o.toNat
abbrev mayOk (m k e : Int) : Prop := (e = -1 ∧ 0 ≤ k ∧ k ≤ 14 + 16 * m) ∨ (0 ≤ e ∧ e ≤ 31 ∧ k = 0)
abbrev allMay (m : Int) (P E : List Int) (n : Nat) : Prop := ∀ i, i < n → mayOk m (P.getD i 0) (E.getD i 0)
structure Rc where
 m : Int
 o : Int
 P : List Int
 E : List Int
abbrev chkOk (c : Rc) (b r : Int) : Prop := (0 ≤ c.m ∧ c.m ≤ 1) ∧ cutOk b r c.o ∧ c.P.length = 2 ^ c.o.toNat ∧ c.E.length = 2 ^ c.o.toNat ∧ allMay c.m c.P c.E (2 ^ c.o.toNat)
theorem pow15 (o : Nat) (h : o ≤ 15) : 1 ≤ 2 ^ o ∧ 2 ^ o ≤ 32768 :=
 ⟨Nat.one_le_two_pow, Nat.le_trans (Nat.pow_le_pow_right (by decide) h) (by decide)⟩
structure Cut (b o r : Nat) : Prop where
 o15 : o ≤ 15
 b1 : 1 ≤ b
 b2 : b ≤ 65535
 r2 : r ≤ 32
 dv : 2 ^ o * (b / 2 ^ o) = b
 le : r ≤ b / 2 ^ o
theorem Cut.of {b r o : Int} (h : cutOk b r o) : ∃ b' r' o' : Nat, b = b' ∧ r = r' ∧ o = o' ∧ Cut b' o' r' := by
 obtain ⟨h1, h2, h3, h4, h5, h6, h7, h8⟩ := h
 refine ⟨b.toNat, r.toNat, o.toNat, by omega, by omega, by omega, by omega, by omega, by omega, by omega, ?_, ?_⟩
 ·have e : b = (b.toNat : Int) := by omega
  rw [e] at h7
  have : ((b.toNat % 2 ^ o.toNat : Nat) : Int) = 0 := by rw [← h7]; push_cast; rfl
  have := Nat.div_add_mod b.toNat (2 ^ o.toNat)
  omega
 ·have e : b = (b.toNat : Int) := by omega
  rw [e] at h8
  have : (r.toNat : Int) ≤ ((b.toNat / 2 ^ o.toNat : Nat) : Int) := by push_cast; omega
  omega
theorem Cut.ok {b o r : Nat} (h : Cut b o r) : cutOk b r o := by
 refine ⟨by omega, by have := h.o15; omega, by have := h.b1; omega, by have := h.b2; omega, by omega, by have := h.r2; omega, ?_, ?_⟩
 ·have e : (((b % 2 ^ o : Nat)) : Int) = 0 := by
   have := Nat.div_add_mod b (2 ^ o); have := h.dv; omega
  rw [← e]; push_cast; simp
 ·have e : (r : Int) ≤ ((b / 2 ^ o : Nat) : Int) := by have := h.le; omega
  push_cast at e
  simpa using e
theorem frN_mono (b o r i : Nat) : frN b o r i ≤ frN b o r (i + 1) := by
 unfold frN; rw [Nat.add_mul]; omega
theorem frN_le (b o r : Nat) (i j : Nat) (h : i ≤ j) : frN b o r i ≤ frN b o r j := by
 unfold frN; have := Nat.mul_le_mul_right (b / 2 ^ o) h; omega
theorem Cut.total {b o r : Nat} (h : Cut b o r) : frN b o r (2 ^ o) = b - r := by unfold frN; rw [h.dv]
theorem Cut.fr_succ {b o r : Nat} (h : Cut b o r) (i : Nat) : frN b o r (i + 1) + r = (i + 1) * (b / 2 ^ o) := by
 unfold frN; have := h.le; have := Nat.mul_le_mul_right (b / 2 ^ o) (show 1 ≤ i + 1 by omega); omega
theorem Cut.rb {b o r : Nat} (h : Cut b o r) : r ≤ b := Nat.le_trans h.le (Nat.div_le_self _ _)
theorem frN_bound {b o r : Nat} (h : Cut b o r) (i : Nat) (hi : i ≤ 2 ^ o) : frN b o r i ≤ b - r := by rw [← h.total]; exact frN_le b o r i _ hi
theorem partN_length (l : List Int) {b o r : Nat} (h : Cut b o r) (hl : l.length = b - r) (i : Nat) (hi : i < 2 ^ o) : (partN l b o r i).length = frN b o r (i + 1) - frN b o r i := by
 unfold partN; rw [List.length_take, List.length_drop]
 have := frN_bound h (i + 1) hi; have := frN_mono b o r i
 omega
def fitE (k e n : Int) : Prop := if e = -1 then rcwE n k = 0 else if e = 0 then n = 0 else sigE n e = 0
def fitT (k e n : Int) : Bool := if e = -1 then decide (rcwE n k = 0) else if e = 0 then decide (n = 0) else decide (sigE n e = 0)
theorem fitT_iff (k e n : Int) : fitT k e n = true ↔ fitE k e n := by
 unfold fitT fitE
 split
 ·exact decide_eq_true_iff
 ·split
  ·exact decide_eq_true_iff
  ·exact decide_eq_true_iff
theorem bool_no {b : Bool} {P : Prop} (hi : b = true ↔ P) (h : ¬ P) : b = false := by
 cases e : b with
 | false => rfl
 | true => exact absurd (hi.1 e) h
def allT (k e : Int) (l : List Int) : Bool := l.all (fitT k e)
theorem allT_iff (k e : Int) (l : List Int) : allT k e l = true ↔ ∀ x ∈ l, fitE k e x := by
 unfold allT
 rw [List.all_eq_true]
 exact ⟨fun h x hx => (fitT_iff k e x).1 (h x hx), fun h x hx => (fitT_iff k e x).2 (h x hx)⟩
def oneB (k e n : Int) : List Nat := if e = -1 then rcwB n k else if e = 0 then [] else sigB n e
def headB (m k e : Int) : List Nat := if e = -1 then putB k (4 + m) else putB (15 + 16 * m) (4 + m) ++ putB e 5
def numsB (k e : Int) (xs : List Int) : List Nat := xs.flatMap (oneB k e)
def partB (m k e : Int) (xs : List Int) : List Nat := headB m k e ++ numsB k e xs
def partsB (c : Rc) (b o r : Nat) (l : List Int) (n : Nat) : List Nat := (List.range n).flatMap fun i => partB c.m (c.P.getD i 0) (c.E.getD i 0) (partN l b o r i)
def encB (c : Rc) (b r : Nat) (l : List Int) : List Nat := putB c.m 2 ++ putB c.o 4 ++ partsB c b c.o.toNat r l (2 ^ c.o.toNat)
def allFit (c : Rc) (b o r : Nat) (l : List Int) (n : Nat) : Prop := ∀ i, i < n → ∀ x ∈ partN l b o r i, fitE (c.P.getD i 0) (c.E.getD i 0) x
theorem partsB_zero (c : Rc) (b o r : Nat) (l : List Int) : partsB c b o r l 0 = [] := rfl
theorem partsB_succ (c : Rc) (b o r : Nat) (l : List Int) (n : Nat) : partsB c b o r l (n + 1) = partsB c b o r l n ++ partB c.m (c.P.getD n 0) (c.E.getD n 0) (partN l b o r n) := by
 unfold partsB; rw [List.range_succ, List.flatMap_append]; simp
theorem numsB_nil (k e : Int) : numsB k e [] = [] := rfl
theorem numsB_snoc (k e : Int) (xs : List Int) (x : Int) : numsB k e (xs ++ [x]) = numsB k e xs ++ oneB k e x := by
 unfold numsB; rw [List.flatMap_append]; simp
theorem oneB_len (k e n : Int) : (oneB k e n).length ≤ 17000000 := by
 unfold oneB; split
 ·exact rcwB_len _ _
 ·split
  ·simp
  ·exact sigB_len _ _
theorem putB_short (u k : Int) (hk : k ≤ 64) : (putB u k).length ≤ 64 := by
 unfold putB; split
 ·rw [bitsOf_length]; omega
 ·simp
theorem headB_len (m k e : Int) (hm : m ≤ 1) : (headB m k e).length ≤ 128 := by
 unfold headB; split
 ·have := putB_short k (4 + m) (by omega); omega
 ·rw [List.length_append]
  have := putB_short (15 + 16 * m) (4 + m) (by omega); have := putB_short e 5 (by omega); omega
theorem numsB_len (k e : Int) (xs : List Int) : (numsB k e xs).length ≤ 17000000 * xs.length := by
 induction xs with
 | nil => simp [numsB]
 | cons x t ih =>
  have h1 := oneB_len k e x
  have : (numsB k e (x :: t)).length = (oneB k e x).length + (numsB k e t).length := by simp [numsB]
  rw [this, List.length_cons]; omega
theorem partsB_len (c : Rc) (hm : c.m ≤ 1) {b o r : Nat} (h : Cut b o r) (l : List Int) (hl : l.length = b - r) (n : Nat) (hn : n ≤ 2 ^ o) : (partsB c b o r l n).length ≤ 128 * n + 17000000 * frN b o r n := by
 induction n with
 | zero => simp [partsB]
 | succ n ih =>
  rw [partsB_succ, List.length_append]
  unfold partB; rw [List.length_append]
  have h1 := headB_len c.m (c.P.getD n 0) (c.E.getD n 0) hm
  have h2 := numsB_len (c.P.getD n 0) (c.E.getD n 0) (partN l b o r n)
  rw [partN_length l h hl n (by omega)] at h2
  have h3 := ih (by omega)
  have h4 := frN_mono b o r n
  have : 17000000 * (frN b o r (n + 1) - frN b o r n) = 17000000 * frN b o r (n + 1) - 17000000 * frN b o r n := Nat.mul_sub _ _ _
  have := Nat.mul_le_mul_left 17000000 h4
  omega
theorem parts_room (c : Rc) (hm : c.m ≤ 1) {b o r : Nat} (h : Cut b o r) (l : List Int) (hl : l.length = b - r) (n : Nat) (hn : n ≤ 2 ^ o) (h5 : l.length ≤ 65535) : (partsB c b o r l n).length ≤ 1200000000000 := by
 have h1 := partsB_len c hm h l hl n hn
 have h2 := frN_bound h n hn
 have h3 := pow15 o h.o15; have := h.b2
 omega
structure IntsAt (w : World) (ao : Option Addr) (l : List Int) : Prop where
 len : l.length ≤ 17592186044415
 num : ∀ n ∈ l, -9223372036854775808 ≤ n ∧ n ≤ 9223372036854775807
 lies : 0 < l.length → ∃ b off, ao = some ⟨b, off, none⟩ ∧ ∀ j, j < l.length → w.cell? ⟨b, off + j, none⟩ = some (.int .i64 (l.getD j 0))
theorem lt_cell {w : World} {a : Addr} {v : Value} (h : w.cell? a = some v) : a.block < w.heap.size := World.block_lt_of_cell? w a h
theorem IntsAt.keep {w w' : World} {ao : Option Addr} {l : List Int} (h : IntsAt w ao l) (hb : ∀ k, k < w.heap.size → w'.heap[k]? = w.heap[k]?) : IntsAt w' ao l := by
 refine ⟨h.len, h.num, fun h0 => ?_⟩
 obtain ⟨b, off, e, hc⟩ := h.lies h0
 refine ⟨b, off, e, fun j hj => ?_⟩
 have h1 := hc j hj
 have h2 := lt_cell h1
 rw [← h1]
 exact World.cell?_of_block (w := w) (hb b h2)
theorem IntsAt.below {w w' : World} {ao : Option Addr} {xs : List Int} (h : IntsAt w ao xs) (hb : Below w.heap.size w w') : IntsAt w' ao xs := h.keep hb.block
theorem IntsAt.drewN {w : World} {ao : Option Addr} {xs : List Int} (h : IntsAt w ao xs) (n : Nat) : IntsAt (w.drewN n) ao xs := h.keep fun k _ => by simp
theorem IntsAt.stays {w w' : World} {ao : Option Addr} {xs : List Int} (h : IntsAt w ao xs) {S : Nat → Prop} (hS : Stays S w w') (hn : ∀ b, blockOf ao = some b → ¬ S b) : IntsAt w' ao xs := by
 refine ⟨h.len, h.num, fun h0 => ?_⟩
 obtain ⟨b, off, e, hc⟩ := h.lies h0
 refine ⟨b, off, e, fun j hj => ?_⟩
 have h1 := hc j hj
 have h2 := lt_cell h1
 rw [← h1]
 exact World.cell?_of_block (w := w) (hS.block b h2 (hn b (by rw [e]; rfl)))
theorem IntsAt.get {w : World} {b off : Nat} {l : List Int} (h : IntsAt w (some ⟨b, off, none⟩) l) (j : Nat) (hj : j < l.length) : w.cell? ⟨b, off + j, none⟩ = some (.int .i64 (l.getD j 0)) := by
 obtain ⟨b', off', e, hc⟩ := h.lies (by omega)
 cases e
 exact hc j hj
theorem IntsAt.rng {w : World} {ao : Option Addr} {l : List Int} (h : IntsAt w ao l) (j : Nat) : -9223372036854775808 ≤ l.getD j 0 ∧ l.getD j 0 ≤ 9223372036854775807 := by
 by_cases hj : j < l.length
 ·rw [List.getD_eq_getElem?_getD, List.getElem?_eq_getElem hj]
  exact h.num _ (List.getElem_mem hj)
 ·rw [List.getD_eq_getElem?_getD, List.getElem?_eq_none (by omega)]
  decide
theorem IntsAt.addr {w : World} {ao : Option Addr} {l : List Int} (h : IntsAt w ao l) (h0 : 0 < l.length) : ∃ b off, ao = some ⟨b, off, none⟩ := by
 obtain ⟨b, off, e, _⟩ := h.lies h0
 exact ⟨b, off, e⟩
theorem getD_part (l : List Int) (f n j : Nat) (hj : j < n) : ((l.drop f).take n).getD j 0 = l.getD (f + j) 0 := by
 rw [List.getD_eq_getElem?_getD, List.getD_eq_getElem?_getD, List.getElem?_take_of_lt hj, List.getElem?_drop]
theorem IntsAt.part {w : World} {ao : Option Addr} {l : List Int} (h : IntsAt w ao l) (f n : Nat) (hf : f + n ≤ l.length) (xo : Option Addr) (hx : ∀ b off, ao = some ⟨b, off, none⟩ → 0 < n → xo = some ⟨b, off + f, none⟩) : IntsAt w xo ((l.drop f).take n) := by
 have hl : ((l.drop f).take n).length = n := by rw [List.length_take, List.length_drop]; omega
 refine ⟨by rw [hl]; have := h.len; omega, fun x hx => h.num x (List.mem_of_mem_drop (List.mem_of_mem_take hx)), fun h0 => ?_⟩
 rw [hl] at h0
 obtain ⟨b, off, e, hc⟩ := h.lies (by omega)
 refine ⟨b, off + f, hx b off e h0, fun j hj => ?_⟩
 rw [hl] at hj
 rw [getD_part l f n j hj, show off + f + j = off + (f + j) from by omega]
 exact hc _ (by omega)
def intsC (l : List Int) : List Value := l.map fun n => Value.int .i64 n
theorem intsC_append (l m : List Int) : intsC (l ++ m) = intsC l ++ intsC m := by simp [intsC]
abbrev riceC (c : Rc) (pa : Option Addr) (pc : Nat) (ea : Option Addr) (ec : Nat) : Array Value := #[.int .i64 c.m, .int .i64 c.o, .slice pa c.P.length pc, .slice ea c.E.length ec]
abbrev riceV (c : Rc) (pa : Option Addr) (pc : Nat) (ea : Option Addr) (ec : Nat) : Value := .agg (riceC c pa pc ea ec)
structure RcAt (w : World) (c : Rc) (pa ea : Option Addr) : Prop where
 P : IntsAt w pa c.P
 E : IntsAt w ea c.E
 m1 : -9223372036854775808 ≤ c.m
 m2 : c.m ≤ 9223372036854775807
 o1 : -9223372036854775808 ≤ c.o
 o2 : c.o ≤ 9223372036854775807
theorem RcAt.keep {w w' : World} {c : Rc} {pa ea : Option Addr} (h : RcAt w c pa ea) (hb : ∀ k, k < w.heap.size → w'.heap[k]? = w.heap[k]?) : RcAt w' c pa ea := ⟨h.P.keep hb, h.E.keep hb, h.m1, h.m2, h.o1, h.o2⟩
theorem RcAt.below {w w' : World} {c : Rc} {pa ea : Option Addr} (h : RcAt w c pa ea) (hb : Below w.heap.size w w') : RcAt w' c pa ea := h.keep hb.block
theorem below_drewN (w : World) (n : Nat) : Below w.heap.size w (w.drewN n) := ⟨rfl, rfl, rfl, Nat.le_refl _, fun _ _ => rfl⟩
theorem Below.drewN {B : Nat} {a w : World} (h : Below B a w) (n : Nat) : Below B a (w.drewN n) := ⟨h.os, h.tape, h.output, h.size, h.block⟩
theorem heap_two (w : World) (A B : Obj) : ((w.alloc A).alloc B).heap[w.heap.size]? = some A := by
 have hb : Below (w.heap.size + 1) (w.alloc A) ((w.alloc A).alloc B) := (Below.refl _ _).alloc (by simp) _
 rw [hb.block _ (by omega)]; exact heap_alloc_new _ _
theorem results_one {fn : Func} {p : Tmp} {ty : TypeId} (h : fn.results = #[.cell p ty]) (tmps : Array Value) (P : Program) (w : World) :
  (results fn tmps).run P w = ((asAddr (tmps.getD p undef)).run P w).andThen fun a w₁ => (loadVar ty a).run P w₁ := by
 simp only [results, h]
 simp [Sem.run_bind, Result.andThen]
theorem results_two {fn : Func} {p t : Tmp} {ty : TypeId} (h : fn.results = #[.cell p ty, .tmp t]) (tmps : Array Value) (P : Program) (w : World) :
  (results fn tmps).run P w = ((asAddr (tmps.getD p undef)).run P w).andThen fun a w₁ => ((loadVar ty a).run P w₁).andThen fun x w₂ => .ok (.tuple #[x, tmps.getD t undef]) w₂ := by
 simp only [results, h]
 simp [Sem.run_bind, Result.andThen]
structure RB (w : World) (c : Rc) (pa : Option Addr) (pc : Nat) (ea : Option Addr) (ec : Nat) (wx : World) : Prop where
 box : wx.heap[w.heap.size]? = some (.cells (riceC c pa pc ea ec) 25 (0, 0))
 below : Below w.heap.size w wx
section
variable {w wx w' : World} {c : Rc} {pa : Option Addr} {pc : Nat} {ea : Option Addr} {ec : Nat}
theorem lt_of_block {w : World} {k : Nat} {o : Obj} (h : w.heap[k]? = some o) : k < w.heap.size := by
 rcases Nat.lt_or_ge k w.heap.size with h1 | h1
 ·exact h1
 ·rw [Array.getElem?_eq_none h1] at h; cases h
theorem RB.new (w : World) (c : Rc) (pa : Option Addr) (pc : Nat) (ea : Option Addr) (ec : Nat) : RB w c pa pc ea ec (w.alloc (.cells (riceC c pa pc ea ec) 25)) :=
 ⟨heap_alloc_new _ _, (Below.refl _ _).alloc (Nat.le_refl _) _⟩
theorem RB.next (h : RB w c pa pc ea ec wx) (hb : Below wx.heap.size wx w') : RB w c pa pc ea ec w' :=
 ⟨by rw [hb.block _ (lt_of_block h.box)]; exact h.box, h.below.trans (hb.mono h.below.size)⟩
theorem RB.drewN (h : RB w c pa pc ea ec wx) (n : Nat) : RB w c pa pc ea ec (wx.drewN n) :=
 ⟨by simpa using h.box, Below.drewN h.below n⟩
theorem RB.c0 (h : RB w c pa pc ea ec wx) : wx.cell? ⟨w.heap.size, 0, none⟩ = some (.int .i64 c.m) := by rw [cell_of_row _ _ _ _ _ _ h.box]; rfl
theorem RB.c1 (h : RB w c pa pc ea ec wx) : wx.cell? ⟨w.heap.size, 1, none⟩ = some (.int .i64 c.o) := by rw [cell_of_row _ _ _ _ _ _ h.box]; rfl
theorem RB.c2 (h : RB w c pa pc ea ec wx) : wx.cell? ⟨w.heap.size, 2, none⟩ = some (.slice pa c.P.length pc) := by rw [cell_of_row _ _ _ _ _ _ h.box]; rfl
theorem RB.c3 (h : RB w c pa pc ea ec wx) : wx.cell? ⟨w.heap.size, 3, none⟩ = some (.slice ea c.E.length ec) := by rw [cell_of_row _ _ _ _ _ _ h.box]; rfl
end
theorem pw_spec (m : Int) (h0 : 0 ≤ m) (h1 : m ≤ 1) (w : World) :
  Calls Tryz.prog 222 #[.int .i64 m] w fun e w' => e = .returned (.int .i64 (4 + m)) ∧ w' = w := by
 rcases (show m = 0 ∨ m = 1 by omega) with rfl | rfl
 ·go_enter Tryz.func222, Tryz.ntmps222
  go_wp2
  go_ret
  exact ⟨rfl, rfl⟩
 ·go_enter Tryz.func222, Tryz.ntmps222
  go_wp2
  go_ret
  exact ⟨rfl, rfl⟩
theorem mark_spec (m : Int) (h0 : 0 ≤ m) (h1 : m ≤ 1) (w : World) :
  Calls Tryz.prog 223 #[.int .i64 m] w fun e w' => e = .returned (.int .i64 (15 + 16 * m)) ∧ w' = w := by
 have KP := fun wx => pw_spec m h0 h1 wx
 rcases (show m = 0 ∨ m = 1 by omega) with rfl | rfl
 ·go_enter Tryz.func223, Tryz.ntmps223
  go_wp2_with (go_at_call 222; refine (KP _).mono ?_; rintro e w' ⟨rfl, rfl⟩)
  go_ret
  exact ⟨rfl, rfl⟩
 ·go_enter Tryz.func223, Tryz.ntmps223
  go_wp2_with (go_at_call 222; refine (KP _).mono ?_; rintro e w' ⟨rfl, rfl⟩)
  go_ret
  exact ⟨rfl, rfl⟩
def areB (b r : Int) : Bool := decide (1 ≤ b ∧ b ≤ 65535 ∧ 0 ≤ r ∧ r ≤ 32)
theorem areOf_spec (b r : Int) (w : World) : Calls Tryz.prog 219 #[.int .i64 b, .int .i64 r] w fun e w' => e = .returned (.bool (areB b r)) ∧ w' = w := by
 by_cases g0 : b < 1
 ·have hd : areB b r = false := decide_eq_false (by omega)
  rw [hd]
  go_enter Tryz.func219, Tryz.ntmps219
  go_wp2
  go_ret
  exact ⟨rfl, rfl⟩
 ·skip
  by_cases g1 : 65535 < b
  ·have hd : areB b r = false := decide_eq_false (by omega)
   rw [hd]
   go_enter Tryz.func219, Tryz.ntmps219
   go_wp2
   go_ret
   exact ⟨rfl, rfl⟩
  ·skip
   by_cases g2 : r < 0
   ·have hd : areB b r = false := decide_eq_false (by omega)
    rw [hd]
    go_enter Tryz.func219, Tryz.ntmps219
    go_wp2
    go_ret
    exact ⟨rfl, rfl⟩
   ·skip
    by_cases g3 : 32 < r
    ·have hd : areB b r = false := decide_eq_false (by omega)
     have hb : decide (r ≤ 32) = false := decide_eq_false (by omega)
     rw [hd]
     go_enter Tryz.func219, Tryz.ntmps219
     go_wp2
     go_ret
     exact ⟨rfl, rfl⟩
    ·skip
     have hd : areB b r = true := decide_eq_true (by omega)
     have hb : decide (r ≤ 32) = true := decide_eq_true (by omega)
     rw [hd]
     go_enter Tryz.func219, Tryz.ntmps219
     go_wp2
     go_ret
     exact ⟨rfl, rfl⟩
theorem mayBe_spec (m k e : Int) (h0 : 0 ≤ m) (h1 : m ≤ 1) (w : World) : Calls Tryz.prog 218 #[.int .i64 m, .int .i64 k, .int .i64 e] w fun en w' => en = .returned (.bool (decide (mayOk m k e))) ∧ w' = w := by
 have KM := fun wx => mark_spec m h0 h1 wx
 by_cases he : e = -1
 ·subst he
  by_cases g0 : k < 0
  ·have hd : decide (mayOk m k (-1)) = false := decide_eq_false (by unfold mayOk; omega)
   rw [hd]
   go_enter Tryz.func218, Tryz.ntmps218
   go_wp2
   go_ret
   exact ⟨rfl, rfl⟩
  ·skip
   by_cases g1 : ¬ k < 15 + 16 * m
   ·have hd : decide (mayOk m k (-1)) = false := decide_eq_false (by unfold mayOk; omega)
    have hb : decide (k < 15 + 16 * m) = false := decide_eq_false (by omega)
    rw [hd]
    go_enter Tryz.func218, Tryz.ntmps218
    go_wp2_with (go_at_call 223; refine (KM _).mono ?_; rintro e w' ⟨rfl, rfl⟩)
    go_ret
    exact ⟨rfl, rfl⟩
   ·skip
    have hd : decide (mayOk m k (-1)) = true := decide_eq_true (by unfold mayOk; omega)
    have hb : decide (k < 15 + 16 * m) = true := decide_eq_true (by omega)
    rw [hd]
    go_enter Tryz.func218, Tryz.ntmps218
    go_wp2_with (go_at_call 223; refine (KM _).mono ?_; rintro e w' ⟨rfl, rfl⟩)
    go_ret
    exact ⟨rfl, rfl⟩
 ·have hbe : (e == -1) = false := by rw [beq_eq_false_iff_ne]; exact he
  by_cases g0 : ¬ k = 0
  ·have hd : decide (mayOk m k e) = false := decide_eq_false (by unfold mayOk; omega)
   have hb : (k == 0) = false := by rw [beq_eq_false_iff_ne]; exact g0
   rw [hd]
   go_enter Tryz.func218, Tryz.ntmps218
   go_wp2
   go_ret
   exact ⟨rfl, rfl⟩
  ·skip
   by_cases g1 : e < 0
   ·have hd : decide (mayOk m k e) = false := decide_eq_false (by unfold mayOk; omega)
    have hk : k = 0 := by omega
    subst hk
    rw [hd]
    go_enter Tryz.func218, Tryz.ntmps218
    go_wp2
    go_ret
    exact ⟨rfl, rfl⟩
   ·skip
    by_cases g2 : 31 < e
    ·have hd : decide (mayOk m k e) = false := decide_eq_false (by unfold mayOk; omega)
     have hb : decide (e ≤ 31) = false := decide_eq_false (by omega)
     have hk : k = 0 := by omega
     subst hk
     rw [hd]
     go_enter Tryz.func218, Tryz.ntmps218
     go_wp2
     go_ret
     exact ⟨rfl, rfl⟩
    ·skip
     have hk : k = 0 := by omega
     subst hk
     have hd : decide (mayOk m 0 e) = true := decide_eq_true (by unfold mayOk; omega)
     have hb : decide (e ≤ 31) = true := decide_eq_true (by omega)
     rw [hd]
     go_enter Tryz.func218, Tryz.ntmps218
     go_wp2
     go_ret
     exact ⟨rfl, rfl⟩
end Go.Proofs.YthgpleelpeacjaaGreatDoor
