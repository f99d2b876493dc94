/- Own text: the program's choice, RotateLeft32 and word. -/
import Derived.Test.YtolmijpecomkcaaDoorMdref
import Derived.Test.YtolmijpecomkcaaDoorMdof
namespace Go.Proofs.YtolmijpecomkcaaDoor.Dg
open Go.RowKit
set_option linter.unusedSimpArgs false
set_option linter.unusedVariables false


/-- Which word a step takes, ahead of the remainder. -/
def gRaw (i : Nat) : Nat := if i / 16 = 0 then i else if i / 16 = 1 then 5 * i + 1 else if i / 16 = 2 then 3 * i + 5 else 7 * i
theorem gRaw_mod (i : Nat) : gRaw i % 16 = gOf i := by
  unfold gRaw gOf
  split
  · omega
  · split
    · rfl
    · split <;> rfl
theorem gRaw_lt (i : Nat) (h : i < 64) : gRaw i < 500 := by
  unfold gRaw
  split
  · omega
  · split
    · omega
    · split <;> omega

set_option maxRecDepth 20000 in
set_option maxHeartbeats 1600000 in
theorem choice_0 (i : Nat) (hi : i < 64) (h : i / 16 = 0) (b c d : BitVec 32) (w : World) :
    Calls Tryd.prog 65 #[.int .i64 (i : Int), .int .u32 (b.toNat : Int), .int .u32 (c.toNat : Int), .int .u32 (d.toNat : Int)] w fun e w' => e = .returned (.tuple #[.int .u32 (((b &&& c) ||| (~~~b &&& d)).toNat : Int), .int .i64 ((i : Nat) : Int)]) ∧ w' = w := by
  have f1 := m_and b c
  have f2 := m_not' b
  have f3 := m_and (~~~b) d
  have f4 := m_or (b &&& c) (~~~b &&& d)
  generalize ((b &&& c) ||| (~~~b &&& d)).toNat = n4 at *
  generalize (b &&& c).toNat = n1 at *
  generalize (~~~b &&& d).toNat = n3 at *
  generalize (~~~b).toNat = n2 at *
  generalize b.toNat = nb at *
  generalize c.toNat = nc at *
  generalize d.toNat = nd at *
  have hq : (i : Int) / 16 = 0 := by omega
  clear h
  go_enter Tryd.func65, Tryd.ntmps65
  go_wp2
  go_ret2
  exact ⟨rfl, rfl⟩

set_option maxRecDepth 20000 in
set_option maxHeartbeats 1600000 in
theorem choice_1 (i : Nat) (hi : i < 64) (h : i / 16 = 1) (b c d : BitVec 32) (w : World) :
    Calls Tryd.prog 65 #[.int .i64 (i : Int), .int .u32 (b.toNat : Int), .int .u32 (c.toNat : Int), .int .u32 (d.toNat : Int)] w fun e w' => e = .returned (.tuple #[.int .u32 (((d &&& b) ||| (~~~d &&& c)).toNat : Int), .int .i64 ((5 * i + 1 : Nat) : Int)]) ∧ w' = w := by
  have f1 := m_and d b
  have f2 := m_not' d
  have f3 := m_and (~~~d) c
  have f4 := m_or (d &&& b) (~~~d &&& c)
  generalize ((d &&& b) ||| (~~~d &&& c)).toNat = n4 at *
  generalize (d &&& b).toNat = n1 at *
  generalize (~~~d &&& c).toNat = n3 at *
  generalize (~~~d).toNat = n2 at *
  generalize b.toNat = nb at *
  generalize c.toNat = nc at *
  generalize d.toNat = nd at *
  have hq : (i : Int) / 16 = 1 := by omega
  clear h
  go_enter Tryd.func65, Tryd.ntmps65
  go_wp2
  go_ret2
  exact ⟨rfl, rfl⟩

set_option maxRecDepth 20000 in
set_option maxHeartbeats 1600000 in
theorem choice_2 (i : Nat) (hi : i < 64) (h : i / 16 = 2) (b c d : BitVec 32) (w : World) :
    Calls Tryd.prog 65 #[.int .i64 (i : Int), .int .u32 (b.toNat : Int), .int .u32 (c.toNat : Int), .int .u32 (d.toNat : Int)] w fun e w' => e = .returned (.tuple #[.int .u32 ((b ^^^ c ^^^ d).toNat : Int), .int .i64 ((3 * i + 5 : Nat) : Int)]) ∧ w' = w := by
  have f1 := m_xor b c
  have f2 := m_xor (b ^^^ c) d
  generalize (b ^^^ c ^^^ d).toNat = n4 at *
  generalize (b ^^^ c).toNat = n1 at *
  generalize b.toNat = nb at *
  generalize c.toNat = nc at *
  generalize d.toNat = nd at *
  have hq : (i : Int) / 16 = 2 := by omega
  clear h
  go_enter Tryd.func65, Tryd.ntmps65
  go_wp2
  go_ret2
  exact ⟨rfl, rfl⟩

set_option maxRecDepth 20000 in
set_option maxHeartbeats 1600000 in
theorem choice_3 (i : Nat) (hi : i < 64) (h : i / 16 = 3) (b c d : BitVec 32) (w : World) :
    Calls Tryd.prog 65 #[.int .i64 (i : Int), .int .u32 (b.toNat : Int), .int .u32 (c.toNat : Int), .int .u32 (d.toNat : Int)] w fun e w' => e = .returned (.tuple #[.int .u32 ((c ^^^ (b ||| ~~~d)).toNat : Int), .int .i64 ((7 * i : Nat) : Int)]) ∧ w' = w := by
  have f1 := m_not' d
  have f2 := m_or b (~~~d)
  have f3 := m_xor c (b ||| ~~~d)
  generalize (c ^^^ (b ||| ~~~d)).toNat = n4 at *
  generalize (b ||| ~~~d).toNat = n2 at *
  generalize (~~~d).toNat = n1 at *
  generalize b.toNat = nb at *
  generalize c.toNat = nc at *
  generalize d.toNat = nd at *
  have hq : (i : Int) / 16 = 3 := by omega
  clear h
  go_enter Tryd.func65, Tryd.ntmps65
  go_wp2
  go_ret2
  exact ⟨rfl, rfl⟩

theorem choice_spec (i : Nat) (hi : i < 64) (b c d : BitVec 32) (w : World) :
    Calls Tryd.prog 65 #[.int .i64 (i : Int), .int .u32 (b.toNat : Int), .int .u32 (c.toNat : Int), .int .u32 (d.toNat : Int)] w fun e w' => e = .returned (.tuple #[.int .u32 ((fOf i b c d).toNat : Int), .int .i64 (gRaw i : Int)]) ∧ w' = w := by
  unfold fOf gRaw
  by_cases h0 : i / 16 = 0
  · rw [if_pos h0, if_pos h0]
    exact choice_0 i hi h0 b c d w
  · rw [if_neg h0, if_neg h0]
    by_cases h1 : i / 16 = 1
    · rw [if_pos h1, if_pos h1]
      exact choice_1 i hi h1 b c d w
    · rw [if_neg h1, if_neg h1]
      by_cases h2 : i / 16 = 2
      · rw [if_pos h2, if_pos h2]
        exact choice_2 i hi h2 b c d w
      · rw [if_neg h2, if_neg h2]
        exact choice_3 i hi (by omega) b c d w

theorem and31 (k : Nat) (h : k < 32) : bits .and .u64 (k : Int) 31 = (k : Int) := by
  have e := u64_and_nat k 31 (by omega) (by decide)
  rw [show ((31 : Nat) : Int) = 31 from rfl] at e
  rw [e, Nat.and_two_pow_sub_one_eq_mod k 5, Nat.mod_eq_of_lt (by omega)]

set_option maxRecDepth 20000 in
set_option maxHeartbeats 1600000 in
theorem rotate_spec (x : BitVec 32) (k : Nat) (h1 : 4 ≤ k) (h2 : k ≤ 23) (w : World) :
    Calls Tryd.prog 66 #[.int .u32 (x.toNat : Int), .int .i64 (k : Int)] w fun e w' => e = .returned (.int .u32 ((rot x k).toNat : Int)) ∧ w' = w := by
  have f0 := and31 k (by omega)
  have f4 := m_shl x k
  have f5 := m_shr x (32 - k)
  have f6 := m_or (x <<< k) (x >>> (32 - k))
  have hl := lt32' x
  have hr : x <<< k ||| x >>> (32 - k) = rot x k := rfl
  rw [hr] at f6
  generalize rot x k = x6 at *
  generalize x <<< k = x4 at *
  generalize x >>> (32 - k) = x5 at *
  clear hr
  go_enter Tryd.func66, Tryd.ntmps66
  go_wp2
  go_ret
  exact ⟨rfl, rfl⟩

set_option maxRecDepth 20000 in
set_option maxHeartbeats 1600000 in
theorem word_spec (n : Nat) (h : n < 4294967296) (w : World) :
    Calls Tryd.prog 67 #[.int .u32 (n : Int)] w fun e w' => e = .returned (.string (textOf (lowL n 4))) ∧ Below w.heap.size w w' := by
  have hf : fitsB (n : Int) ((4 : Nat) : Int) = true := fits_of_nat n 4 (by decide) (by decide) (by omega)
  have k1 := le_spec (n : Int) ((4 : Nat) : Int) (by omega) (by omega) w
  rw [leT_nat n 4 hf, wE_yes _ _ hf] at k1
  generalize textOf (lowL n 4) = t at *
  clear hf
  go_enter Tryd.func67, Tryd.ntmps67
  go_wp2_with fail
  refine k1.mono ?_
  rintro e w1 ⟨rfl, hB⟩
  have HB : Hid (Below w.heap.size w w1) := hB
  clear hB k1
  go_wp2
  go_ret
  exact ⟨rfl, HB.out⟩

end Go.Proofs.YtolmijpecomkcaaDoor.Dg
