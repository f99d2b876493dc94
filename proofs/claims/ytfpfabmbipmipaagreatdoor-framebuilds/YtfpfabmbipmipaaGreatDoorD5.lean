/- Own text. -/
import Derived.Test.YtfpfabmbipmipaaGreatDoorD4
import Derived.Laws.MathBits
set_option linter.unusedSimpArgs false
set_option linter.unusedVariables false
set_option maxRecDepth 20000
set_option maxHeartbeats 12800000
namespace Go.Proofs.YtfpfabmbipmipaaGreatDoor
open Go.RowKit
theorem ret_int {k : IntKind} {a b : Int} (h : a = b) : Ending.returned (.int k a) = .returned (.int k b) := by rw [h]
def foldN (n : Int) : Nat := if 0 <= n then (2 * n).toNat else (-(2 * n) - 1).toNat
theorem foldN_pos (n : Int) (h : 0 <= n) : (foldN n : Int) = 2 * n := by unfold foldN; rw [if_pos h]; omega
theorem foldN_neg (n : Int) (h : n < 0) : (foldN n : Int) = -(2 * n) - 1 := by unfold foldN; rw [if_neg (by omega)]; omega
theorem foldN_lt (n : Int) (h1 : -9223372036854775808 <= n) (h2 : n <= 9223372036854775807) : foldN n < 18446744073709551616 := by
 by_cases h : 0 <= n
 ·have := foldN_pos n h; omega
 ·have := foldN_neg n (by omega); omega
theorem xor_ones (x : Nat) (h : x < 18446744073709551616) : x ^^^ 18446744073709551615 = 18446744073709551615 - x := by
 apply Nat.eq_of_testBit_eq
 intro i
 have e : (18446744073709551615 : Nat) - x = 2 ^ 64 - (x + 1) := by omega
 rw [e, Nat.testBit_two_pow_sub_succ (by omega), Nat.testBit_xor, show (18446744073709551615 : Nat) = 2 ^ 64 - 1 from rfl, Nat.testBit_two_pow_sub_one]
 by_cases hi : i < 64
 ·simp [hi]
 ·have : x.testBit i = false := Nat.testBit_lt_two_pow (Nat.lt_of_lt_of_le h (Nat.pow_le_pow_right (n := 2) (by decide) (show 64 <= i by omega)))
  simp [hi, this]
theorem folded_spec (n : Int) (h1 : -9223372036854775808 <= n) (h2 : n <= 9223372036854775807) (w : World) :
  Calls Tryz.prog 231 #[.int .i64 n] w fun e w' => e = .returned (.int .u64 (foldN n : Int)) /\ w' = w := by
 by_cases h0 : 0 <= n
 ·go_enter Tryz.func231, Tryz.ntmps231
  go_wp2
  go_ret;refine ⟨ret_int ?_, rfl⟩;rw [foldN_pos n h0, show n / 9223372036854775808 = ((0 : Nat) : Int) from by omega, show n * 2 = (((2 * n).toNat : Nat) : Int) from by omega, u64_xor_nat _ _ (by omega) (by omega), Nat.xor_zero]
  omega
 ·go_enter Tryz.func231, Tryz.ntmps231
  go_wp2
  go_ret;refine ⟨ret_int ?_, rfl⟩
  have e1 : IntKind.u64.wrap (IntKind.u64.wrap n * 2) = (((18446744073709551616 + 2 * n).toNat : Nat) : Int) := by
   rw [IntKind.wrap_u64, IntKind.wrap_u64]; omega
  have e2 : IntKind.u64.wrap (n / 9223372036854775808) = ((18446744073709551615 : Nat) : Int) := by
   rw [IntKind.wrap_u64]; omega
  rw [foldN_neg n (by omega), e1, e2, u64_xor_nat _ _ (by omega) (by omega), xor_ones _ (by omega)]
  omega
theorem fold_spec (n : Int) (h1 : -9223372036854775808 <= n) (h2 : n <= 9223372036854775807) (w : World) :
  Calls Tryz.prog 168 #[.int .i64 n] w fun e w' => e = .returned (.int .u64 (foldN n : Int)) /\ w' = w := by
 by_cases h0 : 0 <= n
 ·go_enter Tryz.func168, Tryz.ntmps168
  go_wp2
  go_ret;refine ⟨ret_int ?_, rfl⟩;rw [foldN_pos n h0]; omega
 ·go_enter Tryz.func168, Tryz.ntmps168
  go_wp2
  go_ret;refine ⟨ret_int ?_, rfl⟩;rw [foldN_neg n (by omega)]; omega
theorem rice_width (p : Nat) (n k : Int) (hk : k < 0 ∨ 30 < k) (w : World) : Calls Tryz.prog 215 #[.pointer (some ⟨p, 0, none⟩), .int .i64 n, .int .i64 k] w fun e w' => e = .returned (.int .i64 11) /\ w' = w := by
 rcases hk with hk | hk
 ·go_enter Tryz.func215, Tryz.ntmps215
  go_wp2
  go_ret;exact ⟨rfl, rfl⟩
 ·go_enter Tryz.func215, Tryz.ntmps215
  go_wp2
  go_ret;exact ⟨rfl, rfl⟩
theorem div_cast (x k : Nat) : (x : Int) / 2 ^ k = ((x / 2 ^ k : Nat) : Int) := by simp
theorem rice_long (p : Nat) (n : Int) (h1 : -9223372036854775808 <= n) (h2 : n <= 9223372036854775807) (k : Nat) (hk : k <= 30) (hl : 16777216 < foldN n / 2 ^ k) (w : World) :
  Calls Tryz.prog 215 #[.pointer (some ⟨p, 0, none⟩), .int .i64 n, .int .i64 (k : Int)] w fun e w' => e = .returned (.int .i64 11) /\ w' = w := by
 have hq : (16777216 : Int) < (foldN n : Int) / 2 ^ k := by rw [div_cast]; omega
 go_enter Tryz.func215, Tryz.ntmps215
 go_wp2_with (go_at_call 231; refine (folded_spec n h1 h2 w).mono ?_; rintro e w' ⟨rfl, rfl⟩)
 go_ret
 exact ⟨rfl, rfl⟩
theorem rice_ok (p : Nat) (n : Int) (h1 : -9223372036854775808 <= n) (h2 : n <= 9223372036854775807) (k : Nat) (hk : k <= 30) (hl : foldN n / 2 ^ k <= 16777216)
  (w : World) (ao : OA) (B : List Nat) (h01 : Bits01 B) (hB : B.length <= 9000000000000) (hw : WrB w p ao B) :
  Calls Tryz.prog 215 #[.pointer (some ⟨p, 0, none⟩), .int .i64 n, .int .i64 (k : Int)] w fun e w' =>
   e = .returned (.int .i64 0) /\ ∃ ao', WrB w' p ao' (B ++ List.replicate (foldN n / 2 ^ k) 0 ++ [1] ++ bitsOf (foldN n) k) /\ Stays (foot p ao) w w' /\ Moved w.heap.size ao ao' := by
 obtain ⟨q, hq⟩ : ∃ q, q = foldN n / 2 ^ k := ⟨_, rfl⟩
 have hqi : (foldN n : Int) / 2 ^ k = (q : Int) := by rw [div_cast, hq]
 rw [<- hq] at hl ⊢
 have hf := foldN_lt n h1 h2
 have HQ : Hid _ := hq
 clear hq
 go_enter Tryz.func215, Tryz.ntmps215
 go_wp2_with (first | (go_at_call 231; refine (folded_spec n h1 h2 w).mono ?_; rintro e w' ⟨rfl, rfl⟩) | (go_at_call 186; refine (unary_spec p q hl _ ao B h01 hB hw).mono ?_; rintro e w1 ⟨rfl, ao1, hw1, hs1, hm1⟩))
 have h01' : Bits01 (B ++ List.replicate q 0 ++ [1]) := (h01.append (Bits01.zeros q)).append (by intro b hb; simp at hb; omega)
 have hB' : (B ++ List.replicate q 0 ++ [1]).length <= 10000000000000 := by simp; omega
 refine (put_spec p (foldN n) k hf (by omega) _ ao1 _ h01' hB' hw1).mono ?_
 rintro e w2 ⟨rfl, ao2, hw2, hs2, hm2⟩
 go_wp2
 go_ret
 exact ⟨rfl, ao2, hw2, hs1.foot hs2 hm1, hm1.trans hm2 hs1.size⟩
def lead (L : List Nat) : Nat := (L.takeWhile (· == 0)).length
theorem lead_le (L : List Nat) : lead L <= L.length := by
 unfold lead
 exact (List.takeWhile_sublist _).length_le
theorem lead_cons (x : Nat) (t : List Nat) : lead (x :: t) = if x = 0 then 1 + lead t else 0 := by
 unfold lead
 rw [List.takeWhile_cons]
 by_cases h : x = 0
 ·simp [h, Nat.add_comm]
 ·simp [h]
def ahead (s : ByteArray) (at_ : Nat) : List Nat := (sbits (bytesOf s)).drop at_
theorem ahead_length (s : ByteArray) (at_ : Nat) : (ahead s at_).length = 8 * s.size - at_ := by
 unfold ahead
 rw [List.length_drop, sbits_length, bytesOf_length]
set_option maxRecDepth 100000 in
theorem len8_spec (x : Nat) (hx : x < 256) (w : World) : Calls Tryz.prog 218 #[.int .u8 (x : Int)] w fun e w' => e = .returned (.int .i64 (bitLen x : Int)) /\ w' = w := by
 go_enter Tryz.func218, Tryz.ntmps218
 go_wp2
 go_ret
 refine ⟨ret_int ?_, rfl⟩
 rw [len8tab_get x]
 have := bitLen_le8 x hx
 unfold wrap64
 omega
theorem lz8_spec (x : Nat) (hx : x < 256) (w : World) : Calls Tryz.prog 197 #[.int .u8 (x : Int)] w fun e w' => e = .returned (.int .i64 ((8 - bitLen x : Nat) : Int)) /\ w' = w := by
 have hb := bitLen_le8 x hx
 go_enter Tryz.func197, Tryz.ntmps197
 go_wp2_with (go_at_call 218; refine (len8_spec x hx w).mono ?_; rintro e w' ⟨rfl, rfl⟩)
 go_ret
 refine ⟨ret_int ?_, rfl⟩
 omega
theorem get_width (q : Nat) (k : Int) (hk : k < 0 ∨ 64 < k) (w : World) : Calls Tryz.prog 139 #[.pointer (some ⟨q, 0, none⟩), .int .i64 k] w fun e w' => e = .returned (.tuple #[.int .u64 0, .int .i64 11]) /\ w' = w := by
 rcases hk with hk | hk
 ·go_enter Tryz.func139, Tryz.ntmps139
  go_wp2
  go_ret2
  exact ⟨rfl, rfl⟩
 ·go_enter Tryz.func139, Tryz.ntmps139
  go_wp2
  go_ret2
  exact ⟨rfl, rfl⟩
theorem get_end (q : Nat) (s : ByteArray) (hs : s.size <= 1000000000000000000) (at_ : Nat) (ha : at_ <= 8 * s.size) (k : Nat) (hk : k <= 64) (he : 8 * s.size < at_ + k) (w : World) (h : Rd w q s at_) :
  Calls Tryz.prog 139 #[.pointer (some ⟨q, 0, none⟩), .int .i64 (k : Int)] w fun e w' => e = .returned (.tuple #[.int .u64 0, .int .i64 10]) /\ ∃ n, w' = w.drewN n := by
 go_enter Tryz.func139, Tryz.ntmps139
 go_wp2_with (go_at_call 174; refine (rest_spec q s hs at_ ha _ h).mono ?_; rintro e w' ⟨rfl, n1, rfl⟩)
 go_ret2
 exact ⟨rfl, _, rfl⟩
theorem get_ok (q : Nat) (s : ByteArray) (hs : s.size <= 1000000000000000000) (at_ : Nat) (k : Nat) (hk : k <= 64) (he : at_ + k <= 8 * s.size) (w : World) (h : Rd w q s at_) :
  Calls Tryz.prog 139 #[.pointer (some ⟨q, 0, none⟩), .int .i64 (k : Int)] w fun e w' => e = .returned (.tuple #[.int .u64 (bitsAt s at_ k : Int), .int .i64 0]) /\ Rd w' q s (at_ + k) /\ Stays (only q) w w' := by
 go_enter Tryz.func139, Tryz.ntmps139
 go_wp2_with (first | (go_at_call 174; refine (rest_spec q s hs at_ (by omega) _ h).mono ?_; rintro e w' ⟨rfl, n1, rfl⟩) | (go_at_call 144; refine (take_spec q s hs at_ k he hk _ (h.drewN _)).mono ?_; rintro e w2 ⟨rfl, hR2, hS2⟩))
 go_ret2
 exact ⟨rfl, hR2, ((Stays.refl _ _).drewN n1).trans hS2 (fun _ _ h => h)⟩
theorem WrB.only {w w' : World} {p q : Nat} {ao : OA} {B : List Nat} (h : WrB w p ao B) (hS : Stays (only q) w w') (hp : p ≠ q) (hb : ∀ b, blockOf ao = some b -> b ≠ q) : WrB w' p ao B :=
 h.stays hS hp hb
theorem WrB.below {w w' : World} {p : Nat} {ao : OA} {B : List Nat} (h : WrB w p ao B) (hS : Lo w w') : WrB w' p ao B :=
 h.stays (Stays.of_below hS (fun _ => False)) (fun h => h) (fun _ _ h => h)
theorem Rd.below {w w' : World} {q : Nat} {s : ByteArray} {a : Nat} (h : Rd w q s a) (hS : Lo w w') : Rd w' q s a :=
 h.stays (Stays.of_below hS (fun _ => False)) (fun h => h)
theorem foot_below {N p : Nat} {ao : OA} {w w' : World} (h : Stays (foot p ao) w w') (hN : N <= w.heap.size) (hp : N <= p) (ha : ∀ b, blockOf ao = some b -> N <= b) : Below N w w' :=
 h.below hN (fun i hi hf => by
  rcases hf with hf | hf
  ·omega
  ·have := ha i hf; omega)
theorem ret_bool {a b : Bool} (h : a = b) : Ending.returned (.bool a) = .returned (.bool b) := by rw [h]
structure Xw (w : World) (x : Nat) (ao : OA) (cap : Nat) (B : List Nat) : Prop where
 blk : w.heap[x]? = some (.cells #[.slice ao B.length cap] 62 (0, 0))
 own : w.ownsRow 0 5 1 (.slice ao B.length cap) B.length (byteVals B)
 ne : blockOf ao ≠ some x
section
variable {w w' : World} {x : Nat} {ao : OA} {cap : Nat} {B : List Nat}
theorem Xw.c0 (h : Xw w x ao cap B) : w.cell? ⟨x, 0, none⟩ = some (.slice ao B.length cap) := by simp [World.cell?, h.blk]
theorem Xw.f (h : Xw w x ao cap B) (o : Nat) : w.frozen? ⟨x, o, none⟩ = false := by simp [World.frozen?, h.blk]
theorem Xw.lt (h : Xw w x ao cap B) : x < w.heap.size := lt_of_block h.blk
theorem Xw.kept (h : Xw w x ao cap B) (hp : w'.heap[x]? = w.heap[x]?) (ha : ∀ b, blockOf ao = some b -> w'.heap[b]? = w.heap[b]?) : Xw w' x ao cap B := by
 refine ⟨by rw [hp]; exact h.blk, ⟨h.own.1, ?_⟩, h.ne⟩
 rcases h.own.2 with h0 | ⟨g, cap', cur, hv, hb, hg, r⟩
 ·exact .inl h0
 ·refine .inr ⟨g, cap', cur, hv, hb, ?_, r⟩
  simp only [Value.slice.injEq, true_and] at hv;rw [ha g (by simp [blockOf, hv.1])]
  exact hg
theorem Xw.blocks (h : Xw w x ao cap B) : ∀ b, blockOf ao = some b -> b < w.heap.size := by
 intro b hb
 obtain ⟨ao1, cap1, hv, _, _, _, hs⟩ := owns_shape h.own
 simp only [Value.slice.injEq, true_and] at hv
 obtain ⟨rfl, rfl⟩ := hv
 cases ao with
 | none => cases hb
 | some a => cases hb; exact (hs a rfl).2.2
theorem Xw.stays (h : Xw w x ao cap B) {S : Nat -> Prop} (hS : Stays S w w') (hp : ¬ S x) (ha : ∀ b, blockOf ao = some b -> ¬ S b) : Xw w' x ao cap B :=
 h.kept (hS.block x h.lt hp) (fun b hb => hS.block b (h.blocks b hb) (ha b hb))
theorem Xw.setSlice (h : Xw w x ao cap B) {ao' : OA} {cap' : Nat} {B' : List Nat} (hg : w.grownBy w' (blockOf ao)) (hm : Moved w.heap.size ao ao') (n' : Nat) (hn : n' = B'.length)
  (hown : w'.ownsRow 0 5 1 (.slice ao' n' cap') n' (byteVals B')) : Xw (w'.setCell ⟨x, 0, none⟩ (.slice ao' n' cap')) x ao' cap' B' := by
 subst hn
 have hne : blockOf ao' ≠ some x := fun e => by
  rcases hm x e with h1 | h1
  ·exact h.ne h1
  ·have := h.lt; omega
 have hb : w'.heap[x]? = some (.cells #[.slice ao B.length cap] 62 (0, 0)) := by
  rw [hg.block x h.lt (fun e => h.ne e.symm)]; exact h.blk
 refine ⟨?_, ownsRow_setCell_other hown (fun e => hne ?_) _, hne⟩
 ·rw [block_setCell w' x 0 _ _ _ hb]
  simp
 ·cases ao' with
  | none => simp [Value.ownBlock] at e
  | some a => simpa [Value.ownBlock, blockOf] using e
theorem Xw.push (h : Xw w x ao cap B) {v : Nat} {w1 : World} {ao' : OA} {cap' : Nat} (o : Obj)
  (hg : (w.alloc o).grownBy w1 (blockOf ao)) (hm : Moved (w.heap.size + 1) ao ao') (hown : w1.ownsRow 0 5 1 (.slice ao' (B.length + 1) cap') (B.length + 1) (byteVals B ++ [.int .u8 (v : Int)])) :
  Xw (w1.setCell ⟨x, 0, none⟩ (.slice ao' (B.length + 1) cap')) x ao' cap' (B ++ [v]) /\ Stays (foot x ao) w (w1.setCell ⟨x, 0, none⟩ (.slice ao' (B.length + 1) cap')) /\ Moved w.heap.size ao ao' := by
 have hX : Xw (w.alloc o) x ao cap B := h.kept (Below.heap_alloc _ _ _ h.lt) (fun b hb => Below.heap_alloc _ _ _ (h.blocks b hb))
 refine ⟨?_, ?_, fun b hb => ?_⟩
 ·refine hX.setSlice hg (by simpa using hm) (B.length + 1) (by simp) ?_
  rw [byteVals_append];exact hown
 ·have s1 : Stays (foot x ao) w w1 := by
   refine Stays.trans (T := foot x ao) (b := w.alloc o) ?_ (Stays.of_grown hg (fun b hb => .inr hb)) (fun i _ h => h);exact ⟨rfl, rfl, rfl, by simp, fun i hi _ => Below.heap_alloc _ _ _ hi⟩
  exact s1.setCell _ _ (.inl (.inl rfl))
 ·rcases hm b hb with h1 | h1
  ·exact .inl h1
  ·exact .inr (by omega)
theorem Xw.cells (h : Xw w x ao cap B) (o : Obj) {w1 : World} (hg : (w.alloc o).grownBy w1 (blockOf ao)) :
  w1.cell? ⟨x, 0, none⟩ = some (.slice ao B.length cap) /\ w1.frozen? ⟨x, 0, none⟩ = false := by
 have hX : Xw (w.alloc o) x ao cap B := h.kept (Below.heap_alloc _ _ _ h.lt) (fun b hb => Below.heap_alloc _ _ _ (h.blocks b hb))
 exact ⟨by rw [World.cell?_of_block (hg.block x hX.lt (fun e => h.ne e.symm)), hX.c0], by rw [World.frozen?_of_block (hg.block x hX.lt (fun e => h.ne e.symm)), hX.f 0]⟩
end
def XwB (w : World) (x : Nat) (ao : OA) (B : List Nat) : Prop := ∃ cap, Xw w x ao cap B
theorem XwB.lt {w : World} {x : Nat} {ao : OA} {B : List Nat} (h : XwB w x ao B) : x < w.heap.size := by obtain ⟨_, h⟩ := h; exact h.lt
theorem XwB.blocks {w : World} {x : Nat} {ao : OA} {B : List Nat} (h : XwB w x ao B) : ∀ b, blockOf ao = some b -> b < w.heap.size := by obtain ⟨_, h⟩ := h; exact h.blocks
theorem XwB.stays {w w' : World} {x : Nat} {ao : OA} {B : List Nat} (h : XwB w x ao B) {S : Nat -> Prop} (hS : Stays S w w') (hp : ¬ S x) (ha : ∀ b, blockOf ao = some b -> ¬ S b) : XwB w' x ao B := by
 obtain ⟨cap, h⟩ := h; exact ⟨cap, h.stays hS hp ha⟩
theorem one_new (w : World) (v : Value) (t : TypeId) : ∀ (j : Nat) (u : Value), [v][j]? = some u -> (w.alloc (.cells #[v] t)).cell? ((Addr.mk w.heap.size 0 none).add j) = some u := by
 intro j u hj
 match j, hj with
 | 0, hj => simp at hj; subst hj; exact cell_new w _ t
theorem one_int (k : IntKind) (n : Int) : ∀ u ∈ [Value.int k n], u.oneCell' = true := by intro u hu; simp at hu; subst hu; rfl
theorem put_bit (n j : Nat) (hn : n < 18446744073709551616) : bits BinOp.and IntKind.u64 ((n : Int) / 2 ^ j) 1 = ((n / 2 ^ j % 2 : Nat) : Int) := by
 rw [div_cast]
 have hd : n / 2 ^ j <= n := Nat.div_le_self _ _
 have := u64_and_nat (n / 2 ^ j) 1 (by omega) (by decide)
 rw [nat_mask1] at this
 exact this
theorem refput_ok (x n k : Nat) (hk : k <= 64) (hn : n < 2 ^ k) (w : World) (ao : OA) (B : List Nat) (hB : B.length <= 10000000000000) (hw : XwB w x ao B) :
  Calls Tryz.prog 71 #[.pointer (some ⟨x, 0, none⟩), .int .u64 (n : Int), .int .i64 (k : Int)] w fun e w' =>
   e = .returned (.int .i64 0) /\ ∃ ao', XwB w' x ao' (B ++ bitsOf n k) /\ Stays (foot x ao) w w' /\ Moved w.heap.size ao ao' := by
 obtain ⟨i0, hi, hz0, hz1, hz2⟩ := info_parts Tryz.info5
 have h64 : n < 18446744073709551616 := Nat.lt_of_lt_of_le hn (pow_le_of k 64 hk)
 have hz : (n : Int) / 2 ^ k = 0 := by
  have : n / 2 ^ k = 0 := Nat.div_eq_of_lt hn;rw [div_cast, this]; rfl
 by_cases hk64 : (k : Int) < 64
 all_goals
  go_enter Tryz.func71, Tryz.ntmps71
  go_wp2
  go_loopw [7] (fun t wr => ∃ (j : Nat) (ao' : OA) (Bc : List Nat), j <= k /\ t = .int .i64 ((j : Int) - 1) /\ XwB wr x ao' Bc /\ Bc ++ bitsOf n j = B ++ bitsOf n k /\ Stays (foot x ao) w wr /\ Moved w.heap.size ao ao') (fun t _ => (intOf t + 1).toNat)
  case atStart => exact ⟨k, ao, B, Nat.le_refl _, by go_num, hw, rfl, Stays.refl _ _, Moved.refl _ _⟩
  case round =>
   obtain ⟨j, ao', Bc, hj, rfl, ⟨cap, hX⟩, heq, hS, hM⟩ := hrel;have hlen : Bc.length + j = B.length + k := by have := congrArg List.length heq; simpa [bitsOf_length] using this
   have hbig : Bc.length <= 10000000000064 := by omega
   have HE := kQ heq;clear heq hlen hB hw hz hn;by_cases h0 : 0 < j
   ·obtain ⟨m, rfl⟩ : ∃ m, j = m + 1 := ⟨j - 1, by omega⟩
    have hbit := put_bit n m h64;have hb2 : n / 2 ^ m % 2 < 2 := Nat.mod_lt _ (by decide)
    obtain ⟨v, hv⟩ : ∃ v, v = n / 2 ^ m % 2 := ⟨_, rfl⟩;rw [<- hv] at hbit hb2;have HV : Hid _ := hv;clear hv;have c0 := hX.c0;have hown := hX.own;have f0 := hX.f 0;rw [show (((m + 1 : Nat) : Int) - 1) = (m : Int) from by omega]
    go_wp2_with (at_builtin; refine wpList_append_mine _ rfl _ _ 44 rfl 5 i0 (.int .u8 0) 1 Tryz.underlying44 hi hz0 hz1 hz2 rfl ao' cap Bc.length _ rfl (owns_alloc hown _) ⟨wr.heap.size, 0, none⟩ 1 1 [.int .u8 (v : Int)] rfl rfl (one_new _ _ _) (one_int _ _) ?cc ?cd ?ce)
    case cc => unfold maxLen; omega
    case cd => omega
    case ce =>
     intro ao2 cap2 w1 hown2 hgr hmv;have hP := hX.push _ hgr (by simpa using hmv) hown2
     have hC := hX.cells _ hgr;obtain ⟨q0, qf⟩ := hC;clear hown2 hgr hmv c0 hown f0 hX
     go_wp2
     go_roundw
     case rel =>
      refine ⟨m, ao2, Bc ++ [v], by omega, by go_num, ⟨cap2, hP.1⟩, ?_, hS.foot hP.2.1 hM, hM.trans hP.2.2 hS.size⟩
      have e := HE.out;rw [bitsOf, <- HV.out] at e;rw [List.append_assoc];exact e
     case measure => simp only [intOf]; omega
   ·obtain rfl : j = 0 := by omega
    go_wp2
    go_ret;refine ⟨rfl, ao', ⟨cap, ?_⟩, hS, hM⟩;have := HE.out;simp only [bitsOf, List.append_nil] at this;rw [<- this];exact hX
theorem refput_bad (x : Nat) (n k : Int) (hn : 0 <= n) (hn2 : n < 18446744073709551616) (hbad : k < 0 ∨ 64 < k ∨ (0 <= k /\ k <= 64 /\ 2 ^ k.toNat <= n)) (w : World) :
  Calls Tryz.prog 71 #[.pointer (some ⟨x, 0, none⟩), .int .u64 n, .int .i64 k] w fun e w' => e = .returned (.int .i64 11) /\ w' = w := by
 rcases hbad with h | h | ⟨h1, h2, h3⟩
 rotate_left
 rotate_left
 focus
  have hk64 : k < 64 := by
   rcases Int.lt_or_le k 64 with h | h
   ·exact h
   ·obtain rfl : k = 64 := by omega
    have : (2 : Int) ^ (64 : Int).toNat = 18446744073709551616 := by decide
    omega
  have hp : 0 < (2 : Int) ^ k.toNat := Int.pow_pos (by decide)
  have hq : 1 <= n / 2 ^ k.toNat := Int.le_ediv_of_mul_le hp (by omega)
  have hz : (n / 2 ^ k.toNat != 0) = true := by simp; omega
  clear hq hp h2
 rotate_left
 all_goals
  go_enter Tryz.func71, Tryz.ntmps71
  go_wp2
  go_ret;exact ⟨rfl, rfl⟩
theorem refunary_bad (x : Nat) (n : Int) (hn : n < 0 ∨ 16777216 < n) (w : World) : Calls Tryz.prog 72 #[.pointer (some ⟨x, 0, none⟩), .int .i64 n] w fun e w' => e = .returned (.int .i64 11) /\ w' = w := by
 rcases hn with hn | hn
 ·go_enter Tryz.func72, Tryz.ntmps72
  go_wp2
  go_ret;exact ⟨rfl, rfl⟩
 ·go_enter Tryz.func72, Tryz.ntmps72
  go_wp2
  go_ret;exact ⟨rfl, rfl⟩
theorem refunary_ok (x n : Nat) (hn : n <= 16777216) (w : World) (ao : OA) (B : List Nat) (hB : B.length <= 9000000000000) (hw : XwB w x ao B) :
  Calls Tryz.prog 72 #[.pointer (some ⟨x, 0, none⟩), .int .i64 (n : Int)] w fun e w' =>
   e = .returned (.int .i64 0) /\ ∃ ao', XwB w' x ao' (B ++ List.replicate n 0 ++ [1]) /\ Stays (foot x ao) w w' /\ Moved w.heap.size ao ao' := by
 obtain ⟨i0, hi, hz0, hz1, hz2⟩ := info_parts Tryz.info5
 go_enter Tryz.func72, Tryz.ntmps72
 go_wp2
 go_loopw [5] (fun t wr => ∃ (j : Nat) (ao' : OA), j <= n /\ t = .int .i64 (j : Int) /\ XwB wr x ao' (B ++ List.replicate j 0) /\ Stays (foot x ao) w wr /\ Moved w.heap.size ao ao') (fun t _ => n - (intOf t).toNat)
 case atStart => exact ⟨0, ao, Nat.zero_le _, rfl, by simpa using hw, Stays.refl _ _, Moved.refl _ _⟩
 case round =>
  obtain ⟨j, ao', hj, rfl, ⟨cap, hX⟩, hS, hM⟩ := hrel;obtain ⟨Bc, hBc⟩ : ∃ Bc, Bc = B ++ List.replicate j 0 := ⟨_, rfl⟩;rw [<- hBc] at hX;have hl : Bc.length <= 9000016777216 := by rw [hBc]; simp; omega
  have HB : Hid _ := hBc;clear hBc hw;have c0 := hX.c0;have hown := hX.own;have f0 := hX.f 0;by_cases h0 : (j : Int) < (n : Int)
  ·go_wp2_with (at_builtin; refine wpList_append_mine _ rfl _ _ 44 rfl 5 i0 (.int .u8 0) 1 Tryz.underlying44 hi hz0 hz1 hz2 rfl ao' cap Bc.length _ rfl (owns_alloc hown _) ⟨wr.heap.size, 0, none⟩ 1 1 [.int .u8 ((0 : Nat) : Int)] rfl rfl (one_new _ _ _) (one_int _ _) ?cc ?cd ?ce)
   case cc => unfold maxLen; omega
   case cd => omega
   case ce =>
    intro ao2 cap2 w1 hown2 hgr hmv;have hP := hX.push _ hgr (by simpa using hmv) hown2
    obtain ⟨q0, qf⟩ := hX.cells _ hgr;clear hown2 hgr hmv c0 hown f0 hX
    go_wp2
    go_roundw
    case rel =>
     refine ⟨j + 1, ao2, by omega, by go_num, ⟨cap2, ?_⟩, hS.foot hP.2.1 hM, hM.trans hP.2.2 hS.size⟩
     have e := hP.1;rw [HB.out, List.append_assoc, <- List.replicate_succ'] at e;have el : (B ++ List.replicate j 0).length + 1 = Bc.length + 1 := by rw [HB.out]
     rw [el] at e;exact e
    case measure => simp only [intOf]; omega
  ·obtain rfl : j = n := by omega
   go_wp2_with (at_builtin; refine wpList_append_mine _ rfl _ _ 44 rfl 5 i0 (.int .u8 0) 1 Tryz.underlying44 hi hz0 hz1 hz2 rfl ao' cap Bc.length _ rfl (owns_alloc hown _) ⟨wr.heap.size, 0, none⟩ 1 1 [.int .u8 ((1 : Nat) : Int)] rfl rfl (one_new _ _ _) (one_int _ _) ?ch ?ci ?cj)
   case ch => unfold maxLen; omega
   case ci => omega
   case cj =>
    intro ao2 cap2 w1 hown2 hgr hmv;have hP := hX.push _ hgr (by simpa using hmv) hown2
    obtain ⟨q0, qf⟩ := hX.cells _ hgr;clear hown2 hgr hmv c0 hown f0 hX
    go_wp2
    go_ret;refine ⟨rfl, ao2, ⟨cap2, ?_⟩, hS.foot hP.2.1 hM, hM.trans hP.2.2 hS.size⟩;rw [<- List.append_assoc, <- HB.out];exact hP.1
def asU (n : Int) : Nat := (n % 18446744073709551616).toNat
theorem asU_lt (n : Int) : asU n < 18446744073709551616 := by unfold asU; omega
theorem asU_wrap (n : Int) : IntKind.u64.wrap n = (asU n : Int) := by rw [IntKind.wrap_u64]; unfold asU; omega
theorem wunary_bad (p : Nat) (n : Int) (hn : n < 0 ∨ 16777216 < n) (w : World) : Calls Tryz.prog 156 #[.pointer (some ⟨p, 0, none⟩), .int .i64 n] w fun e w' => e = .returned (.int .i64 11) /\ w' = w := by
 rcases hn with hn | hn
 ·go_enter Tryz.func156, Tryz.ntmps156
  go_wp2
  go_ret;exact ⟨rfl, rfl⟩
 ·go_enter Tryz.func156, Tryz.ntmps156
  go_wp2
  go_ret;exact ⟨rfl, rfl⟩
theorem wunary_ok (p n : Nat) (hn : n <= 16777216) (w : World) (ao : OA) (B : List Nat) (h01 : Bits01 B) (hB : B.length <= 9000000000000) (hw : WrB w p ao B) :
  Calls Tryz.prog 156 #[.pointer (some ⟨p, 0, none⟩), .int .i64 (n : Int)] w fun e w' =>
   e = .returned (.int .i64 0) /\ ∃ ao', WrB w' p ao' (B ++ List.replicate n 0 ++ [1]) /\ Stays (foot p ao) w w' /\ Moved w.heap.size ao ao' := by
 go_enter Tryz.func156, Tryz.ntmps156
 go_wp2_with (go_at_call 186; refine (unary_spec p n hn w ao B h01 hB hw).mono ?_; rintro e w' ⟨rfl, ao', h1, h2, h3⟩)
 go_ret
 exact ⟨rfl, ao', h1, h2, h3⟩
theorem wsigned_width (p : Nat) (n k : Int) (hk : k < 1 ∨ 64 < k) (w : World) : Calls Tryz.prog 187 #[.pointer (some ⟨p, 0, none⟩), .int .i64 n, .int .i64 k] w fun e w' => e = .returned (.int .i64 11) /\ w' = w := by
 rcases hk with hk | hk
 ·go_enter Tryz.func187, Tryz.ntmps187
  go_wp2
  go_ret;exact ⟨rfl, rfl⟩
 ·go_enter Tryz.func187, Tryz.ntmps187
  go_wp2
  go_ret;exact ⟨rfl, rfl⟩
theorem sign_div (n : Int) (m : Nat) : (n / 2 ^ m = 0 ↔ 0 <= n /\ n < 2 ^ m) /\ (n / 2 ^ m = -1 ↔ -2 ^ m <= n /\ n < 0) := by
 have hp : 0 < (2 : Int) ^ m := Int.pow_pos (by decide)
 have h1 := Int.emod_nonneg n (Int.ne_of_gt hp)
 have h2 := Int.emod_lt_of_pos n hp
 have h3 := Int.mul_ediv_add_emod n (2 ^ m)
 generalize (2 : Int) ^ m = A at *
 generalize n % A = r at *
 generalize n / A = q at *
 constructor
 ·constructor
  ·rintro rfl; simp at h3; omega
  ·intro ⟨ha, hb⟩
   rcases Int.lt_trichotomy q 0 with h | h | h
   ·have : A * q <= A * (-1) := Int.mul_le_mul_of_nonneg_left (by omega) (by omega)
    omega
   ·exact h
   ·have : A * 1 <= A * q := Int.mul_le_mul_of_nonneg_left (by omega) (by omega)
    omega
 ·constructor
  ·rintro rfl; omega
  ·intro ⟨ha, hb⟩
   rcases Int.lt_trichotomy q (-1) with h | h | h
   ·have : A * q <= A * (-2) := Int.mul_le_mul_of_nonneg_left (by omega) (by omega)
    omega
   ·exact h
   ·have : A * 0 <= A * q := Int.mul_le_mul_of_nonneg_left (by omega) (by omega)
    omega
theorem wsigned_bad (p : Nat) (n : Int) (k : Nat) (h1 : 1 <= k) (hk : k <= 64) (hb : n < -2 ^ (k - 1) ∨ 2 ^ (k - 1) <= n) (w : World) :
  Calls Tryz.prog 187 #[.pointer (some ⟨p, 0, none⟩), .int .i64 n, .int .i64 (k : Int)] w fun e w' => e = .returned (.int .i64 11) /\ w' = w := by
 have hd := sign_div n (k - 1)
 have hp : 0 < (2 : Int) ^ (k - 1) := Int.pow_pos (by decide)
 have e0 : (n / 2 ^ (k - 1) != 0) = true := by simp only [bne_iff_ne, ne_eq, hd.1]; omega
 have e1 : (n / 2 ^ (k - 1) != -1) = true := by simp only [bne_iff_ne, ne_eq, hd.2]; omega
 clear hd hp hb
 go_enter Tryz.func187, Tryz.ntmps187
 go_wp2
 go_ret
 exact ⟨rfl, rfl⟩
theorem wsigned_ok (p : Nat) (n : Int) (k : Nat) (h1 : 1 <= k) (hk : k <= 64) (hb1 : -2 ^ (k - 1) <= n) (hb2 : n < 2 ^ (k - 1)) (w : World) (ao : OA) (B : List Nat) (h01 : Bits01 B) (hB : B.length <= 9000000000000) (hw : WrB w p ao B) :
  Calls Tryz.prog 187 #[.pointer (some ⟨p, 0, none⟩), .int .i64 n, .int .i64 (k : Int)] w fun e w' =>
   e = .returned (.int .i64 0) /\ ∃ ao', WrB w' p ao' (B ++ bitsOf (asU n) k) /\ Stays (foot p ao) w w' /\ Moved w.heap.size ao ao' := by
 have hd := sign_div n (k - 1)
 have hwr := asU_wrap n
 by_cases hn : 0 <= n
 focus
  have e0 : n / 2 ^ (k - 1) = 0 := hd.1.2 ⟨hn, hb2⟩
 rotate_left
 focus
  have e0 : n / 2 ^ (k - 1) = -1 := hd.2.2 ⟨hb1, by omega⟩
 rotate_left
 all_goals
  clear hd hb1 hb2;go_enter Tryz.func187, Tryz.ntmps187
  go_wp2_with fail
  refine (put_spec p (asU n) k (asU_lt n) hk w ao B h01 (by omega) hw).mono ?_
  rintro e w' ⟨rfl, ao', h1, h2, h3⟩
  go_wp2
  go_ret;exact ⟨rfl, ao', h1, h2, h3⟩
theorem fits_out (n k : Int) (hk : k < 1 ∨ 64 < k) (w : World) : Calls Tryz.prog 27 #[.int .i64 n, .int .i64 k] w fun e w' => e = .returned (.bool false) /\ w' = w := by
 rcases hk with hk | hk
 ·go_enter Tryz.func27, Tryz.ntmps27
  go_wp2
  go_ret;exact ⟨rfl, rfl⟩
 ·go_enter Tryz.func27, Tryz.ntmps27
  go_wp2
  go_ret;exact ⟨rfl, rfl⟩
theorem fits_in (n : Int) (h1 : -9223372036854775808 <= n) (h2 : n <= 9223372036854775807) (k : Nat) (hk1 : 1 <= k) (hk : k <= 64) (w : World) :
  Calls Tryz.prog 27 #[.int .i64 n, .int .i64 (k : Int)] w fun e w' => e = .returned (.bool (decide (-2 ^ (k - 1) <= n /\ n < 2 ^ (k - 1)))) /\ w' = w := by
 by_cases h64 : k = 64
 ·subst h64
  go_enter Tryz.func27, Tryz.ntmps27
  go_wp2
  go_ret;refine ⟨ret_bool ?_, rfl⟩
  symm
  rw [decide_eq_true_iff];have e : (2 : Int) ^ (64 - 1) = 9223372036854775808 := by decide
  rw [e];omega
 focus
  have h62 : (2 : Nat) ^ (k - 1) <= 2 ^ 62 := pow_le_of (k - 1) 62 (by omega)
  have hA : (2 : Int) ^ (k - 1) = ((2 ^ (k - 1) : Nat) : Int) := by simp
  obtain ⟨A, hAd⟩ : ∃ A : Nat, A = 2 ^ (k - 1) := ⟨_, rfl⟩;rw [<- hAd] at hA h62;have hA0 : 0 < A := by rw [hAd]; exact Nat.two_pow_pos _
  have hk64 : (k : Int) < 64 := by omega
  rw [hA];clear hAd;by_cases g1 : -(A : Int) <= n
  focus
   by_cases g2 : n <= (A : Int) - 1;rotate_left;rotate_left
  rotate_left 2;rotate_left
 rotate_left 3
 all_goals
  go_enter Tryz.func27, Tryz.ntmps27
  go_wp2
  go_ret;exact ⟨ret_bool (by simp; omega), rfl⟩
end Go.Proofs.YtfpfabmbipmipaaGreatDoor
