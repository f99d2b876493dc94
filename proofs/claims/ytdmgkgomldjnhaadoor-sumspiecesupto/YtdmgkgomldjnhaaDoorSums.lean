/- Own text: the walks of 'sumOf' and of the four sums: what each answers. -/
import Derived.Test.YtdmgkgomldjnhaaDoorAdds
namespace Go.Proofs.YtdmgkgomldjnhaaDoor
open Go.RowKit
set_option linter.unusedSimpArgs false
set_option linter.unusedVariables false

/-- What the four sums are. -/
def c8 (s : ByteArray) : Nat := (crcL p8 0#8 (bytesOf s)).toNat
def c16 (s : ByteArray) : Nat := (crcL p16 0#16 (bytesOf s)).toNat
def c32 (s : ByteArray) : Nat := (crcL p32 0#32 (bytesOf s)).toNat
def c33 (s : ByteArray) : Nat := (crcR q32 0xFFFFFFFF#32 (bytesOf s)).toNat ^^^ 4294967295

theorem c8_lt (s : ByteArray) : c8 s < 256 := BitVec.isLt _
theorem c16_lt (s : ByteArray) : c16 s < 65536 := BitVec.isLt _
theorem c32_lt (s : ByteArray) : c32 s < 4294967296 := BitVec.isLt _
theorem c33_lt (s : ByteArray) : c33 s < 4294967296 := Nat.xor_lt_two_pow (n := 32) (BitVec.isLt _) (by decide)

theorem xor0 (n : Nat) (h : n < 4294967296) : bits .xor .u32 (n : Int) 0 = (n : Int) := by
  have := u32_xor_nat n 0 h (by decide)
  simpa using this

/-- A sum that was added to has this value. -/
theorem value_8 (q : Nat) (l : List Nat) (w : World) (h : S8 w q (crcL P8 0#32 l).toNat) : Calls Tryd.prog 19 #[.pointer (some ⟨q, 0, none⟩)] w fun e w' => e = .returned (.int .i64 (((crcL p8 0#8 l).toNat : Nat) : Int)) ∧ ∃ n, w' = w.drewN n := by
  refine value_spec q 8 8 7 0 false _ _ _ (by decide) (by decide) ?_ (by have := (crcL p8 0#8 l).isLt; omega) w h
  rw [xor0 _ (lt32 _), ← crc8_up l]
  simp
theorem value_16 (q : Nat) (l : List Nat) (w : World) (h : S16 w q (crcL P16 0#32 l).toNat) : Calls Tryd.prog 19 #[.pointer (some ⟨q, 0, none⟩)] w fun e w' => e = .returned (.int .i64 (((crcL p16 0#16 l).toNat : Nat) : Int)) ∧ ∃ n, w' = w.drewN n := by
  refine value_spec q 16 16 32773 0 false _ _ _ (by decide) (by decide) ?_ (by have := (crcL p16 0#16 l).isLt; omega) w h
  rw [xor0 _ (lt32 _), ← crc16_up l]
  simp
theorem value_32 (q : Nat) (l : List Nat) (w : World) (h : S32 w q (crcL p32 0#32 l).toNat) : Calls Tryd.prog 19 #[.pointer (some ⟨q, 0, none⟩)] w fun e w' => e = .returned (.int .i64 (((crcL p32 0#32 l).toNat : Nat) : Int)) ∧ ∃ n, w' = w.drewN n := by
  refine value_spec q 32 32 79764919 0 false _ _ _ (by decide) (by decide) ?_ (lt32 _) w h
  rw [xor0 _ (lt32 _)]
  simp
theorem value_33 (q : Nat) (x : BitVec 32) (w : World) (h : S33 w q x.toNat) : Calls Tryd.prog 19 #[.pointer (some ⟨q, 0, none⟩)] w fun e w' => e = .returned (.int .i64 ((x.toNat ^^^ 4294967295 : Nat) : Int)) ∧ ∃ n, w' = w.drewN n := by
  refine value_spec q 33 32 3988292384 4294967295 true _ _ _ (by decide) (by decide) ?_ (Nat.xor_lt_two_pow (n := 32) (BitVec.isLt _) (by decide)) w h
  have := u32_xor_nat x.toNat 4294967295 (lt32 _) (by decide)
  have e : (((4294967295 : Nat)) : Int) = 4294967295 := rfl
  rw [e] at this
  rw [this]
  simp

theorem Below.drewN_right {B : Nat} {a w : World} (h : Below B a w) (n : Nat) : Below B a (w.drewN n) := ⟨h.os, h.tape, h.output, h.size, h.block⟩

set_option maxRecDepth 20000 in
set_option maxHeartbeats 800000 in
theorem sumOf_of (k : Int) (s : ByteArray) (v : Nat) (A B : World → Nat → Prop)
    (hnew : ∀ w, RulesAt w → Calls Tryd.prog 17 #[.int .i64 k] w fun e w' => ∃ q, e = .returned (.pointer (some ⟨q, 0, none⟩)) ∧ w.heap.size ≤ q ∧ A w' q ∧ Below w.heap.size w w')
    (hadd : ∀ w q, A w q → Calls Tryd.prog 20 #[.pointer (some ⟨q, 0, none⟩), .string s] w fun e w' => e = .returned (.tuple #[]) ∧ B w' q ∧ Only q w w')
    (hval : ∀ w q, B w q → Calls Tryd.prog 19 #[.pointer (some ⟨q, 0, none⟩)] w fun e w' => e = .returned (.int .i64 (v : Int)) ∧ ∃ n, w' = w.drewN n)
    (w : World) (hR : RulesAt w) :
    Calls Tryd.prog 23 #[.int .i64 k, .string s] w fun e w' => e = .returned (.int .i64 (v : Int)) ∧ Below w.heap.size w w' := by
  have HN : Hid (∀ w, RulesAt w → Calls Tryd.prog 17 #[.int .i64 k] w fun e w' => ∃ q, e = .returned (.pointer (some ⟨q, 0, none⟩)) ∧ w.heap.size ≤ q ∧ A w' q ∧ Below w.heap.size w w') := hnew
  have HA : Hid (∀ w q, A w q → Calls Tryd.prog 20 #[.pointer (some ⟨q, 0, none⟩), .string s] w fun e w' => e = .returned (.tuple #[]) ∧ B w' q ∧ Only q w w') := hadd
  have HV : Hid (∀ w q, B w q → Calls Tryd.prog 19 #[.pointer (some ⟨q, 0, none⟩)] w fun e w' => e = .returned (.int .i64 (v : Int)) ∧ ∃ n, w' = w.drewN n) := hval
  clear hnew hadd hval
  go_enter Tryd.func23, Tryd.ntmps23
  go_wp2_with fail
  refine (HN.out w hR).mono ?_
  rintro e w1 ⟨q, rfl, hq, hA, hB⟩
  have HAq : Hid (A w1 q) := hA
  have HB : Hid (Below w.heap.size w w1) := hB
  have HQ : Hid (w.heap.size ≤ q) := hq
  clear hA hB hq
  go_wp2_with fail
  refine (HA.out w1 q HAq.out).mono ?_
  rintro e w2 ⟨rfl, hb, ho⟩
  have HBq : Hid (B w2 q) := hb
  have HO : Hid (Only q w1 w2) := ho
  clear hb ho
  go_wp2_with fail
  refine (HV.out w2 q HBq.out).mono ?_
  rintro e w3 ⟨rfl, n, rfl⟩
  go_wp2
  go_ret
  exact ⟨rfl, Below.drewN_right (HB.out.trans (HO.out.below HQ.out)) n⟩

theorem crc8_sum (s : ByteArray) (hs : s.size ≤ 200000000000000) (w : World) (hR : RulesAt w) : Calls Tryd.prog 23 #[.int .i64 8, .string s] w fun e w' => e = .returned (.int .i64 (c8 s : Int)) ∧ Below w.heap.size w w' :=
  sumOf_of 8 s (c8 s) (fun w q => S8 w q 0) (fun w q => S8 w q (crcL P8 0#32 (bytesOf s)).toNat) new_8 (fun w q h => add_high q 8 8 7 0 P8 0#32 s hs w h) (fun w q h => value_8 q _ w h) w hR

set_option maxRecDepth 20000 in
set_option maxHeartbeats 400000 in
theorem crc8_spec (s : ByteArray) (hs : s.size ≤ 200000000000000) (w : World) (hR : RulesAt w) : Calls Tryd.prog 8 #[.string s] w fun e w' => e = .returned (.int .i64 (c8 s : Int)) ∧ Below w.heap.size w w' := by
  have HC : Hid (Calls Tryd.prog 23 #[.int .i64 8, .string s] w fun e w' => e = .returned (.int .i64 (c8 s : Int)) ∧ Below w.heap.size w w') := crc8_sum s hs w hR
  generalize c8 s = v at HC ⊢
  clear hR
  go_enter Tryd.func8, Tryd.ntmps8
  go_wp2_with fail
  refine HC.out.mono ?_
  rintro e w1 ⟨rfl, hB⟩
  have HB : Hid (Below w.heap.size w w1) := hB
  clear hB
  go_wp2
  go_ret
  exact ⟨rfl, HB.out⟩

theorem crc16_sum (s : ByteArray) (hs : s.size ≤ 200000000000000) (w : World) (hR : RulesAt w) : Calls Tryd.prog 23 #[.int .i64 16, .string s] w fun e w' => e = .returned (.int .i64 (c16 s : Int)) ∧ Below w.heap.size w w' :=
  sumOf_of 16 s (c16 s) (fun w q => S16 w q 0) (fun w q => S16 w q (crcL P16 0#32 (bytesOf s)).toNat) new_16 (fun w q h => add_high q 16 16 32773 0 P16 0#32 s hs w h) (fun w q h => value_16 q _ w h) w hR

set_option maxRecDepth 20000 in
set_option maxHeartbeats 400000 in
theorem crc16_spec (s : ByteArray) (hs : s.size ≤ 200000000000000) (w : World) (hR : RulesAt w) : Calls Tryd.prog 10 #[.string s] w fun e w' => e = .returned (.int .i64 (c16 s : Int)) ∧ Below w.heap.size w w' := by
  have HC : Hid (Calls Tryd.prog 23 #[.int .i64 16, .string s] w fun e w' => e = .returned (.int .i64 (c16 s : Int)) ∧ Below w.heap.size w w') := crc16_sum s hs w hR
  generalize c16 s = v at HC ⊢
  clear hR
  go_enter Tryd.func10, Tryd.ntmps10
  go_wp2_with fail
  refine HC.out.mono ?_
  rintro e w1 ⟨rfl, hB⟩
  have HB : Hid (Below w.heap.size w w1) := hB
  clear hB
  go_wp2
  go_ret
  exact ⟨rfl, HB.out⟩

theorem ogg_sum (s : ByteArray) (hs : s.size ≤ 200000000000000) (w : World) (hR : RulesAt w) : Calls Tryd.prog 23 #[.int .i64 32, .string s] w fun e w' => e = .returned (.int .i64 (c32 s : Int)) ∧ Below w.heap.size w w' :=
  sumOf_of 32 s (c32 s) (fun w q => S32 w q 0) (fun w q => S32 w q (crcL p32 0#32 (bytesOf s)).toNat) new_32 (fun w q h => add_high q 32 32 79764919 0 p32 0#32 s hs w h) (fun w q h => value_32 q _ w h) w hR

set_option maxRecDepth 20000 in
set_option maxHeartbeats 400000 in
theorem ogg_spec (s : ByteArray) (hs : s.size ≤ 200000000000000) (w : World) (hR : RulesAt w) : Calls Tryd.prog 12 #[.string s] w fun e w' => e = .returned (.int .i64 (c32 s : Int)) ∧ Below w.heap.size w w' := by
  have HC : Hid (Calls Tryd.prog 23 #[.int .i64 32, .string s] w fun e w' => e = .returned (.int .i64 (c32 s : Int)) ∧ Below w.heap.size w w') := ogg_sum s hs w hR
  generalize c32 s = v at HC ⊢
  clear hR
  go_enter Tryd.func12, Tryd.ntmps12
  go_wp2_with fail
  refine HC.out.mono ?_
  rintro e w1 ⟨rfl, hB⟩
  have HB : Hid (Below w.heap.size w w1) := hB
  clear hB
  go_wp2
  go_ret
  exact ⟨rfl, HB.out⟩

theorem crc32_sum (s : ByteArray) (hs : s.size ≤ 200000000000000) (w : World) (hR : RulesAt w) : Calls Tryd.prog 23 #[.int .i64 33, .string s] w fun e w' => e = .returned (.int .i64 (c33 s : Int)) ∧ Below w.heap.size w w' :=
  sumOf_of 33 s (c33 s) (fun w q => S33 w q 4294967295) (fun w q => S33 w q (crcR q32 0xFFFFFFFF#32 (bytesOf s)).toNat) new_33 (fun w q h => add_low q 33 32 3988292384 4294967295 q32 0xFFFFFFFF#32 s hs w h) (fun w q h => value_33 q _ w h) w hR

set_option maxRecDepth 20000 in
set_option maxHeartbeats 400000 in
theorem crc32_spec (s : ByteArray) (hs : s.size ≤ 200000000000000) (w : World) (hR : RulesAt w) : Calls Tryd.prog 14 #[.string s] w fun e w' => e = .returned (.int .i64 (c33 s : Int)) ∧ Below w.heap.size w w' := by
  have HC : Hid (Calls Tryd.prog 23 #[.int .i64 33, .string s] w fun e w' => e = .returned (.int .i64 (c33 s : Int)) ∧ Below w.heap.size w w') := crc32_sum s hs w hR
  generalize c33 s = v at HC ⊢
  clear hR
  go_enter Tryd.func14, Tryd.ntmps14
  go_wp2_with fail
  refine HC.out.mono ?_
  rintro e w1 ⟨rfl, hB⟩
  have HB : Hid (Below w.heap.size w w1) := hB
  clear hB
  go_wp2
  go_ret
  exact ⟨rfl, HB.out⟩

end Go.Proofs.YtdmgkgomldjnhaaDoor
