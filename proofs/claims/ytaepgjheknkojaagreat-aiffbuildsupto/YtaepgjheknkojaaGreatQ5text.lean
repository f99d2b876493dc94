/- Own text: the walk of a sample's text. -/
import Derived.Test.YtaepgjheknkojaaGreatG11x
import Derived.Test.YtaepgjheknkojaaGreatRefbytes
namespace Go.Proofs.YtaepgjheknkojaaGreat
open Go.RowKit
set_option linter.unusedSimpArgs false
set_option linter.unusedVariables false

theorem and_1 (n : Int) : bits BinOp.and IntKind.i64 n 255 = n % 256 := by
  show IntKind.i64.wrap ((BitVec.ofInt 64 n &&& BitVec.ofInt 64 255).toNat : Int) = _
  rw [BitVec.toNat_and, BitVec.toNat_ofInt, show (BitVec.ofInt 64 255).toNat = 2 ^ 8 - 1 from rfl, Nat.and_two_pow_sub_one_eq_mod, IntKind.wrap_i64]
  omega

theorem and_2 (n : Int) : bits BinOp.and IntKind.i64 n 65535 = n % 65536 := by
  show IntKind.i64.wrap ((BitVec.ofInt 64 n &&& BitVec.ofInt 64 65535).toNat : Int) = _
  rw [BitVec.toNat_and, BitVec.toNat_ofInt, show (BitVec.ofInt 64 65535).toNat = 2 ^ 16 - 1 from rfl, Nat.and_two_pow_sub_one_eq_mod, IntKind.wrap_i64]
  omega

theorem and_3 (n : Int) : bits BinOp.and IntKind.i64 n 16777215 = n % 16777216 := by
  show IntKind.i64.wrap ((BitVec.ofInt 64 n &&& BitVec.ofInt 64 16777215).toNat : Int) = _
  rw [BitVec.toNat_and, BitVec.toNat_ofInt, show (BitVec.ofInt 64 16777215).toNat = 2 ^ 24 - 1 from rfl, Nat.and_two_pow_sub_one_eq_mod, IntKind.wrap_i64]
  omega

theorem and_4 (n : Int) : bits BinOp.and IntKind.i64 n 4294967295 = n % 4294967296 := by
  show IntKind.i64.wrap ((BitVec.ofInt 64 n &&& BitVec.ofInt 64 4294967295).toNat : Int) = _
  rw [BitVec.toNat_and, BitVec.toNat_ofInt, show (BitVec.ofInt 64 4294967295).toNat = 2 ^ 32 - 1 from rfl, Nat.and_two_pow_sub_one_eq_mod, IntKind.wrap_i64]
  omega

set_option maxRecDepth 20000 in
set_option maxHeartbeats 1600000 in
theorem text_1truetrue (wd n m : Int) (h4 : 4 ≤ wd) (h32 : wd ≤ 32) (hn1 : -4294967296 ≤ n) (hn2 : n ≤ 4294967296) (T : ByteArray) (r : Int)
    (hm : n + 2 ^ (wd - 1).toNat = m) (kt : ∀ w, Calls Tryz.prog 93 #[.int .i64 m, .int .i64 1] w fun e w' => e = .returned (.tuple #[.string T, .int .i64 r]) ∧ Below w.heap.size w w') (w : World) :
    Calls Tryz.prog 63 #[.agg #[.int .i64 wd, .int .i64 1, .bool true, .bool true], .int .i64 n] w fun e w' => e = .returned (.string T) ∧ Below w.heap.size w w' := by
  have ha : bits BinOp.and IntKind.i64 n 255 = n % 256 := and_1 n
  obtain ⟨hp1, hp2⟩ := pow33 (wd - 1).toNat (by omega)
  have kh := half_spec wd (by omega) (by omega)
  generalize (2 : Int) ^ (wd - 1).toNat = h at *
  have hq1 : 0 ≤ n % 256 := Int.emod_nonneg _ (by decide)
  generalize n % 256 = q at ha hq1
  subst hm
  go_enter Tryz.func63, Tryz.ntmps63
  go_wp2_with fail
  refine (kh _).mono ?_
  rintro e w3 ⟨rfl, rfl⟩
  go_wp2_with fail
  refine (kt _).mono ?_
  rintro e w4 ⟨rfl, h4⟩
  go_wp2_with fail
  go_ret
  exact ⟨rfl, ((Below.refl _ _).alloc (Nat.le_refl _) _).trans (h4.mono (by simp))⟩

set_option maxRecDepth 20000 in
set_option maxHeartbeats 1600000 in
theorem text_1truefalse (wd n m : Int) (h4 : 4 ≤ wd) (h32 : wd ≤ 32) (hn1 : -4294967296 ≤ n) (hn2 : n ≤ 4294967296) (T : ByteArray) (r : Int)
    (hm : n + 2 ^ (wd - 1).toNat = m) (kt : ∀ w, Calls Tryz.prog 94 #[.int .i64 m, .int .i64 1] w fun e w' => e = .returned (.tuple #[.string T, .int .i64 r]) ∧ Below w.heap.size w w') (w : World) :
    Calls Tryz.prog 63 #[.agg #[.int .i64 wd, .int .i64 1, .bool false, .bool true], .int .i64 n] w fun e w' => e = .returned (.string T) ∧ Below w.heap.size w w' := by
  have ha : bits BinOp.and IntKind.i64 n 255 = n % 256 := and_1 n
  obtain ⟨hp1, hp2⟩ := pow33 (wd - 1).toNat (by omega)
  have kh := half_spec wd (by omega) (by omega)
  generalize (2 : Int) ^ (wd - 1).toNat = h at *
  have hq1 : 0 ≤ n % 256 := Int.emod_nonneg _ (by decide)
  generalize n % 256 = q at ha hq1
  subst hm
  go_enter Tryz.func63, Tryz.ntmps63
  go_wp2_with fail
  refine (kh _).mono ?_
  rintro e w3 ⟨rfl, rfl⟩
  go_wp2_with fail
  refine (kt _).mono ?_
  rintro e w4 ⟨rfl, h4⟩
  go_wp2_with fail
  go_ret
  exact ⟨rfl, ((Below.refl _ _).alloc (Nat.le_refl _) _).trans (h4.mono (by simp))⟩

set_option maxRecDepth 20000 in
set_option maxHeartbeats 1600000 in
theorem text_1falsetrue (wd n m : Int) (h4 : 4 ≤ wd) (h32 : wd ≤ 32) (hn1 : -4294967296 ≤ n) (hn2 : n ≤ 4294967296) (T : ByteArray) (r : Int)
    (hm : n % 256 = m) (kt : ∀ w, Calls Tryz.prog 93 #[.int .i64 m, .int .i64 1] w fun e w' => e = .returned (.tuple #[.string T, .int .i64 r]) ∧ Below w.heap.size w w') (w : World) :
    Calls Tryz.prog 63 #[.agg #[.int .i64 wd, .int .i64 1, .bool true, .bool false], .int .i64 n] w fun e w' => e = .returned (.string T) ∧ Below w.heap.size w w' := by
  have ha : bits BinOp.and IntKind.i64 n 255 = n % 256 := and_1 n
  rw [hm] at ha
  clear hm
  go_enter Tryz.func63, Tryz.ntmps63
  go_wp2_with fail
  refine (kt _).mono ?_
  rintro e w4 ⟨rfl, h4⟩
  go_wp2_with fail
  go_ret
  exact ⟨rfl, ((Below.refl _ _).alloc (Nat.le_refl _) _).trans (h4.mono (by simp))⟩

set_option maxRecDepth 20000 in
set_option maxHeartbeats 1600000 in
theorem text_1falsefalse (wd n m : Int) (h4 : 4 ≤ wd) (h32 : wd ≤ 32) (hn1 : -4294967296 ≤ n) (hn2 : n ≤ 4294967296) (T : ByteArray) (r : Int)
    (hm : n % 256 = m) (kt : ∀ w, Calls Tryz.prog 94 #[.int .i64 m, .int .i64 1] w fun e w' => e = .returned (.tuple #[.string T, .int .i64 r]) ∧ Below w.heap.size w w') (w : World) :
    Calls Tryz.prog 63 #[.agg #[.int .i64 wd, .int .i64 1, .bool false, .bool false], .int .i64 n] w fun e w' => e = .returned (.string T) ∧ Below w.heap.size w w' := by
  have ha : bits BinOp.and IntKind.i64 n 255 = n % 256 := and_1 n
  rw [hm] at ha
  clear hm
  go_enter Tryz.func63, Tryz.ntmps63
  go_wp2_with fail
  refine (kt _).mono ?_
  rintro e w4 ⟨rfl, h4⟩
  go_wp2_with fail
  go_ret
  exact ⟨rfl, ((Below.refl _ _).alloc (Nat.le_refl _) _).trans (h4.mono (by simp))⟩

set_option maxRecDepth 20000 in
set_option maxHeartbeats 1600000 in
theorem text_2truetrue (wd n m : Int) (h4 : 4 ≤ wd) (h32 : wd ≤ 32) (hn1 : -4294967296 ≤ n) (hn2 : n ≤ 4294967296) (T : ByteArray) (r : Int)
    (hm : n + 2 ^ (wd - 1).toNat = m) (kt : ∀ w, Calls Tryz.prog 93 #[.int .i64 m, .int .i64 2] w fun e w' => e = .returned (.tuple #[.string T, .int .i64 r]) ∧ Below w.heap.size w w') (w : World) :
    Calls Tryz.prog 63 #[.agg #[.int .i64 wd, .int .i64 2, .bool true, .bool true], .int .i64 n] w fun e w' => e = .returned (.string T) ∧ Below w.heap.size w w' := by
  have ha : bits BinOp.and IntKind.i64 n 65535 = n % 65536 := and_2 n
  obtain ⟨hp1, hp2⟩ := pow33 (wd - 1).toNat (by omega)
  have kh := half_spec wd (by omega) (by omega)
  generalize (2 : Int) ^ (wd - 1).toNat = h at *
  have hq1 : 0 ≤ n % 65536 := Int.emod_nonneg _ (by decide)
  generalize n % 65536 = q at ha hq1
  subst hm
  go_enter Tryz.func63, Tryz.ntmps63
  go_wp2_with fail
  refine (kh _).mono ?_
  rintro e w3 ⟨rfl, rfl⟩
  go_wp2_with fail
  refine (kt _).mono ?_
  rintro e w4 ⟨rfl, h4⟩
  go_wp2_with fail
  go_ret
  exact ⟨rfl, ((Below.refl _ _).alloc (Nat.le_refl _) _).trans (h4.mono (by simp))⟩

set_option maxRecDepth 20000 in
set_option maxHeartbeats 1600000 in
theorem text_2truefalse (wd n m : Int) (h4 : 4 ≤ wd) (h32 : wd ≤ 32) (hn1 : -4294967296 ≤ n) (hn2 : n ≤ 4294967296) (T : ByteArray) (r : Int)
    (hm : n + 2 ^ (wd - 1).toNat = m) (kt : ∀ w, Calls Tryz.prog 94 #[.int .i64 m, .int .i64 2] w fun e w' => e = .returned (.tuple #[.string T, .int .i64 r]) ∧ Below w.heap.size w w') (w : World) :
    Calls Tryz.prog 63 #[.agg #[.int .i64 wd, .int .i64 2, .bool false, .bool true], .int .i64 n] w fun e w' => e = .returned (.string T) ∧ Below w.heap.size w w' := by
  have ha : bits BinOp.and IntKind.i64 n 65535 = n % 65536 := and_2 n
  obtain ⟨hp1, hp2⟩ := pow33 (wd - 1).toNat (by omega)
  have kh := half_spec wd (by omega) (by omega)
  generalize (2 : Int) ^ (wd - 1).toNat = h at *
  have hq1 : 0 ≤ n % 65536 := Int.emod_nonneg _ (by decide)
  generalize n % 65536 = q at ha hq1
  subst hm
  go_enter Tryz.func63, Tryz.ntmps63
  go_wp2_with fail
  refine (kh _).mono ?_
  rintro e w3 ⟨rfl, rfl⟩
  go_wp2_with fail
  refine (kt _).mono ?_
  rintro e w4 ⟨rfl, h4⟩
  go_wp2_with fail
  go_ret
  exact ⟨rfl, ((Below.refl _ _).alloc (Nat.le_refl _) _).trans (h4.mono (by simp))⟩

set_option maxRecDepth 20000 in
set_option maxHeartbeats 1600000 in
theorem text_2falsetrue (wd n m : Int) (h4 : 4 ≤ wd) (h32 : wd ≤ 32) (hn1 : -4294967296 ≤ n) (hn2 : n ≤ 4294967296) (T : ByteArray) (r : Int)
    (hm : n % 65536 = m) (kt : ∀ w, Calls Tryz.prog 93 #[.int .i64 m, .int .i64 2] w fun e w' => e = .returned (.tuple #[.string T, .int .i64 r]) ∧ Below w.heap.size w w') (w : World) :
    Calls Tryz.prog 63 #[.agg #[.int .i64 wd, .int .i64 2, .bool true, .bool false], .int .i64 n] w fun e w' => e = .returned (.string T) ∧ Below w.heap.size w w' := by
  have ha : bits BinOp.and IntKind.i64 n 65535 = n % 65536 := and_2 n
  rw [hm] at ha
  clear hm
  go_enter Tryz.func63, Tryz.ntmps63
  go_wp2_with fail
  refine (kt _).mono ?_
  rintro e w4 ⟨rfl, h4⟩
  go_wp2_with fail
  go_ret
  exact ⟨rfl, ((Below.refl _ _).alloc (Nat.le_refl _) _).trans (h4.mono (by simp))⟩

set_option maxRecDepth 20000 in
set_option maxHeartbeats 1600000 in
theorem text_2falsefalse (wd n m : Int) (h4 : 4 ≤ wd) (h32 : wd ≤ 32) (hn1 : -4294967296 ≤ n) (hn2 : n ≤ 4294967296) (T : ByteArray) (r : Int)
    (hm : n % 65536 = m) (kt : ∀ w, Calls Tryz.prog 94 #[.int .i64 m, .int .i64 2] w fun e w' => e = .returned (.tuple #[.string T, .int .i64 r]) ∧ Below w.heap.size w w') (w : World) :
    Calls Tryz.prog 63 #[.agg #[.int .i64 wd, .int .i64 2, .bool false, .bool false], .int .i64 n] w fun e w' => e = .returned (.string T) ∧ Below w.heap.size w w' := by
  have ha : bits BinOp.and IntKind.i64 n 65535 = n % 65536 := and_2 n
  rw [hm] at ha
  clear hm
  go_enter Tryz.func63, Tryz.ntmps63
  go_wp2_with fail
  refine (kt _).mono ?_
  rintro e w4 ⟨rfl, h4⟩
  go_wp2_with fail
  go_ret
  exact ⟨rfl, ((Below.refl _ _).alloc (Nat.le_refl _) _).trans (h4.mono (by simp))⟩

set_option maxRecDepth 20000 in
set_option maxHeartbeats 1600000 in
theorem text_3truetrue (wd n m : Int) (h4 : 4 ≤ wd) (h32 : wd ≤ 32) (hn1 : -4294967296 ≤ n) (hn2 : n ≤ 4294967296) (T : ByteArray) (r : Int)
    (hm : n + 2 ^ (wd - 1).toNat = m) (kt : ∀ w, Calls Tryz.prog 93 #[.int .i64 m, .int .i64 3] w fun e w' => e = .returned (.tuple #[.string T, .int .i64 r]) ∧ Below w.heap.size w w') (w : World) :
    Calls Tryz.prog 63 #[.agg #[.int .i64 wd, .int .i64 3, .bool true, .bool true], .int .i64 n] w fun e w' => e = .returned (.string T) ∧ Below w.heap.size w w' := by
  have ha : bits BinOp.and IntKind.i64 n 16777215 = n % 16777216 := and_3 n
  obtain ⟨hp1, hp2⟩ := pow33 (wd - 1).toNat (by omega)
  have kh := half_spec wd (by omega) (by omega)
  generalize (2 : Int) ^ (wd - 1).toNat = h at *
  have hq1 : 0 ≤ n % 16777216 := Int.emod_nonneg _ (by decide)
  generalize n % 16777216 = q at ha hq1
  subst hm
  go_enter Tryz.func63, Tryz.ntmps63
  go_wp2_with fail
  refine (kh _).mono ?_
  rintro e w3 ⟨rfl, rfl⟩
  go_wp2_with fail
  refine (kt _).mono ?_
  rintro e w4 ⟨rfl, h4⟩
  go_wp2_with fail
  go_ret
  exact ⟨rfl, ((Below.refl _ _).alloc (Nat.le_refl _) _).trans (h4.mono (by simp))⟩

set_option maxRecDepth 20000 in
set_option maxHeartbeats 1600000 in
theorem text_3truefalse (wd n m : Int) (h4 : 4 ≤ wd) (h32 : wd ≤ 32) (hn1 : -4294967296 ≤ n) (hn2 : n ≤ 4294967296) (T : ByteArray) (r : Int)
    (hm : n + 2 ^ (wd - 1).toNat = m) (kt : ∀ w, Calls Tryz.prog 94 #[.int .i64 m, .int .i64 3] w fun e w' => e = .returned (.tuple #[.string T, .int .i64 r]) ∧ Below w.heap.size w w') (w : World) :
    Calls Tryz.prog 63 #[.agg #[.int .i64 wd, .int .i64 3, .bool false, .bool true], .int .i64 n] w fun e w' => e = .returned (.string T) ∧ Below w.heap.size w w' := by
  have ha : bits BinOp.and IntKind.i64 n 16777215 = n % 16777216 := and_3 n
  obtain ⟨hp1, hp2⟩ := pow33 (wd - 1).toNat (by omega)
  have kh := half_spec wd (by omega) (by omega)
  generalize (2 : Int) ^ (wd - 1).toNat = h at *
  have hq1 : 0 ≤ n % 16777216 := Int.emod_nonneg _ (by decide)
  generalize n % 16777216 = q at ha hq1
  subst hm
  go_enter Tryz.func63, Tryz.ntmps63
  go_wp2_with fail
  refine (kh _).mono ?_
  rintro e w3 ⟨rfl, rfl⟩
  go_wp2_with fail
  refine (kt _).mono ?_
  rintro e w4 ⟨rfl, h4⟩
  go_wp2_with fail
  go_ret
  exact ⟨rfl, ((Below.refl _ _).alloc (Nat.le_refl _) _).trans (h4.mono (by simp))⟩

set_option maxRecDepth 20000 in
set_option maxHeartbeats 1600000 in
theorem text_3falsetrue (wd n m : Int) (h4 : 4 ≤ wd) (h32 : wd ≤ 32) (hn1 : -4294967296 ≤ n) (hn2 : n ≤ 4294967296) (T : ByteArray) (r : Int)
    (hm : n % 16777216 = m) (kt : ∀ w, Calls Tryz.prog 93 #[.int .i64 m, .int .i64 3] w fun e w' => e = .returned (.tuple #[.string T, .int .i64 r]) ∧ Below w.heap.size w w') (w : World) :
    Calls Tryz.prog 63 #[.agg #[.int .i64 wd, .int .i64 3, .bool true, .bool false], .int .i64 n] w fun e w' => e = .returned (.string T) ∧ Below w.heap.size w w' := by
  have ha : bits BinOp.and IntKind.i64 n 16777215 = n % 16777216 := and_3 n
  rw [hm] at ha
  clear hm
  go_enter Tryz.func63, Tryz.ntmps63
  go_wp2_with fail
  refine (kt _).mono ?_
  rintro e w4 ⟨rfl, h4⟩
  go_wp2_with fail
  go_ret
  exact ⟨rfl, ((Below.refl _ _).alloc (Nat.le_refl _) _).trans (h4.mono (by simp))⟩

set_option maxRecDepth 20000 in
set_option maxHeartbeats 1600000 in
theorem text_3falsefalse (wd n m : Int) (h4 : 4 ≤ wd) (h32 : wd ≤ 32) (hn1 : -4294967296 ≤ n) (hn2 : n ≤ 4294967296) (T : ByteArray) (r : Int)
    (hm : n % 16777216 = m) (kt : ∀ w, Calls Tryz.prog 94 #[.int .i64 m, .int .i64 3] w fun e w' => e = .returned (.tuple #[.string T, .int .i64 r]) ∧ Below w.heap.size w w') (w : World) :
    Calls Tryz.prog 63 #[.agg #[.int .i64 wd, .int .i64 3, .bool false, .bool false], .int .i64 n] w fun e w' => e = .returned (.string T) ∧ Below w.heap.size w w' := by
  have ha : bits BinOp.and IntKind.i64 n 16777215 = n % 16777216 := and_3 n
  rw [hm] at ha
  clear hm
  go_enter Tryz.func63, Tryz.ntmps63
  go_wp2_with fail
  refine (kt _).mono ?_
  rintro e w4 ⟨rfl, h4⟩
  go_wp2_with fail
  go_ret
  exact ⟨rfl, ((Below.refl _ _).alloc (Nat.le_refl _) _).trans (h4.mono (by simp))⟩

set_option maxRecDepth 20000 in
set_option maxHeartbeats 1600000 in
theorem text_4truetrue (wd n m : Int) (h4 : 4 ≤ wd) (h32 : wd ≤ 32) (hn1 : -4294967296 ≤ n) (hn2 : n ≤ 4294967296) (T : ByteArray) (r : Int)
    (hm : n + 2 ^ (wd - 1).toNat = m) (kt : ∀ w, Calls Tryz.prog 93 #[.int .i64 m, .int .i64 4] w fun e w' => e = .returned (.tuple #[.string T, .int .i64 r]) ∧ Below w.heap.size w w') (w : World) :
    Calls Tryz.prog 63 #[.agg #[.int .i64 wd, .int .i64 4, .bool true, .bool true], .int .i64 n] w fun e w' => e = .returned (.string T) ∧ Below w.heap.size w w' := by
  have ha : bits BinOp.and IntKind.i64 n 4294967295 = n % 4294967296 := and_4 n
  obtain ⟨hp1, hp2⟩ := pow33 (wd - 1).toNat (by omega)
  have kh := half_spec wd (by omega) (by omega)
  generalize (2 : Int) ^ (wd - 1).toNat = h at *
  have hq1 : 0 ≤ n % 4294967296 := Int.emod_nonneg _ (by decide)
  generalize n % 4294967296 = q at ha hq1
  subst hm
  go_enter Tryz.func63, Tryz.ntmps63
  go_wp2_with fail
  refine (kh _).mono ?_
  rintro e w3 ⟨rfl, rfl⟩
  go_wp2_with fail
  refine (kt _).mono ?_
  rintro e w4 ⟨rfl, h4⟩
  go_wp2_with fail
  go_ret
  exact ⟨rfl, ((Below.refl _ _).alloc (Nat.le_refl _) _).trans (h4.mono (by simp))⟩

set_option maxRecDepth 20000 in
set_option maxHeartbeats 1600000 in
theorem text_4truefalse (wd n m : Int) (h4 : 4 ≤ wd) (h32 : wd ≤ 32) (hn1 : -4294967296 ≤ n) (hn2 : n ≤ 4294967296) (T : ByteArray) (r : Int)
    (hm : n + 2 ^ (wd - 1).toNat = m) (kt : ∀ w, Calls Tryz.prog 94 #[.int .i64 m, .int .i64 4] w fun e w' => e = .returned (.tuple #[.string T, .int .i64 r]) ∧ Below w.heap.size w w') (w : World) :
    Calls Tryz.prog 63 #[.agg #[.int .i64 wd, .int .i64 4, .bool false, .bool true], .int .i64 n] w fun e w' => e = .returned (.string T) ∧ Below w.heap.size w w' := by
  have ha : bits BinOp.and IntKind.i64 n 4294967295 = n % 4294967296 := and_4 n
  obtain ⟨hp1, hp2⟩ := pow33 (wd - 1).toNat (by omega)
  have kh := half_spec wd (by omega) (by omega)
  generalize (2 : Int) ^ (wd - 1).toNat = h at *
  have hq1 : 0 ≤ n % 4294967296 := Int.emod_nonneg _ (by decide)
  generalize n % 4294967296 = q at ha hq1
  subst hm
  go_enter Tryz.func63, Tryz.ntmps63
  go_wp2_with fail
  refine (kh _).mono ?_
  rintro e w3 ⟨rfl, rfl⟩
  go_wp2_with fail
  refine (kt _).mono ?_
  rintro e w4 ⟨rfl, h4⟩
  go_wp2_with fail
  go_ret
  exact ⟨rfl, ((Below.refl _ _).alloc (Nat.le_refl _) _).trans (h4.mono (by simp))⟩

set_option maxRecDepth 20000 in
set_option maxHeartbeats 1600000 in
theorem text_4falsetrue (wd n m : Int) (h4 : 4 ≤ wd) (h32 : wd ≤ 32) (hn1 : -4294967296 ≤ n) (hn2 : n ≤ 4294967296) (T : ByteArray) (r : Int)
    (hm : n % 4294967296 = m) (kt : ∀ w, Calls Tryz.prog 93 #[.int .i64 m, .int .i64 4] w fun e w' => e = .returned (.tuple #[.string T, .int .i64 r]) ∧ Below w.heap.size w w') (w : World) :
    Calls Tryz.prog 63 #[.agg #[.int .i64 wd, .int .i64 4, .bool true, .bool false], .int .i64 n] w fun e w' => e = .returned (.string T) ∧ Below w.heap.size w w' := by
  have ha : bits BinOp.and IntKind.i64 n 4294967295 = n % 4294967296 := and_4 n
  rw [hm] at ha
  clear hm
  go_enter Tryz.func63, Tryz.ntmps63
  go_wp2_with fail
  refine (kt _).mono ?_
  rintro e w4 ⟨rfl, h4⟩
  go_wp2_with fail
  go_ret
  exact ⟨rfl, ((Below.refl _ _).alloc (Nat.le_refl _) _).trans (h4.mono (by simp))⟩

set_option maxRecDepth 20000 in
set_option maxHeartbeats 1600000 in
theorem text_4falsefalse (wd n m : Int) (h4 : 4 ≤ wd) (h32 : wd ≤ 32) (hn1 : -4294967296 ≤ n) (hn2 : n ≤ 4294967296) (T : ByteArray) (r : Int)
    (hm : n % 4294967296 = m) (kt : ∀ w, Calls Tryz.prog 94 #[.int .i64 m, .int .i64 4] w fun e w' => e = .returned (.tuple #[.string T, .int .i64 r]) ∧ Below w.heap.size w w') (w : World) :
    Calls Tryz.prog 63 #[.agg #[.int .i64 wd, .int .i64 4, .bool false, .bool false], .int .i64 n] w fun e w' => e = .returned (.string T) ∧ Below w.heap.size w w' := by
  have ha : bits BinOp.and IntKind.i64 n 4294967295 = n % 4294967296 := and_4 n
  rw [hm] at ha
  clear hm
  go_enter Tryz.func63, Tryz.ntmps63
  go_wp2_with fail
  refine (kt _).mono ?_
  rintro e w4 ⟨rfl, h4⟩
  go_wp2_with fail
  go_ret
  exact ⟨rfl, ((Below.refl _ _).alloc (Nat.le_refl _) _).trans (h4.mono (by simp))⟩

theorem samp_range (n wd : Int) (h4 : 4 ≤ wd) (h32 : wd ≤ 32) (hs : sampB n wd = true) : -2147483648 ≤ n ∧ n < 2147483648 := by
  have h := of_decide_eq_true hs
  have := pow31 (wd - 1).toNat (by omega)
  omega
theorem leT_code (wd : Int) (uns : Bool) (n : Int) (h4 : 4 ≤ wd) (h32 : wd ≤ 32) (hs : sampB n wd = true) : leT (codeN wd uns n) (nby wd) = textOf (codeL false wd uns n) := by
  obtain ⟨h0, h1, _⟩ := codeN_fits wd uns n h4 h32 hs
  obtain ⟨k1, k4, _, _⟩ := nby_range wd h4 h32
  obtain ⟨m, hm⟩ := Int.eq_ofNat_of_zero_le h0
  unfold codeL
  rw [hm] at h1 ⊢
  generalize nby wd = k at *
  have e : (256 : Int) ^ k = ((256 ^ k : Nat) : Int) := (Int.natCast_pow 256 k).symm
  rw [e] at h1
  rw [leT_nat m _ (fits_of_nat m k k1 (by omega) (Int.ofNat_lt.1 h1))]
  rfl
theorem beT_code (wd : Int) (uns : Bool) (n : Int) (h4 : 4 ≤ wd) (h32 : wd ≤ 32) (hs : sampB n wd = true) : beT (codeN wd uns n) (nby wd) = textOf (codeL true wd uns n) := by
  obtain ⟨h0, h1, _⟩ := codeN_fits wd uns n h4 h32 hs
  obtain ⟨k1, k4, _, _⟩ := nby_range wd h4 h32
  obtain ⟨m, hm⟩ := Int.eq_ofNat_of_zero_le h0
  unfold codeL
  rw [hm] at h1 ⊢
  generalize nby wd = k at *
  have e : (256 : Int) ^ k = ((256 ^ k : Nat) : Int) := (Int.natCast_pow 256 k).symm
  rw [e] at h1
  rw [beT_nat m _ (fits_of_nat m k k1 (by omega) (Int.ofNat_lt.1 h1))]
  rfl
theorem codeN_mod (wd n : Int) (s : Nat) (h4 : 4 ≤ wd) (h32 : wd ≤ 32) (hs : sampB n wd = true) (hk : nby wd = s) : n % ((256 ^ s : Nat) : Int) = codeN wd false n := by
  have hf := codeN_fits wd false n h4 h32 hs
  obtain ⟨k1, k4, _, _⟩ := nby_range wd h4 h32
  unfold codeN at hf ⊢
  rw [if_neg (by decide)] at hf ⊢
  rw [hk] at hf ⊢
  have e : (2 : Int) ^ (8 * s) = ((256 ^ s : Nat) : Int) := by rw [pow_eq, pow256]
  have e2 : (256 : Int) ^ s = ((256 ^ s : Nat) : Int) := by simp
  rw [e, e2] at hf
  rw [e]
  by_cases h0 : n < 0
  · rw [if_pos h0] at hf ⊢
    rw [← Int.add_emod_right, Int.emod_eq_of_lt hf.1 hf.2.1]
  · rw [if_neg h0] at hf ⊢
    exact Int.emod_eq_of_lt hf.1 hf.2.1

/-- How a sample stands in bytes. -/
abbrev cellC (wd : Int) (big uns : Bool) : Array Value := #[.int .i64 wd, .int .i64 (nby wd : Int), .bool big, .bool uns]
theorem text_spec (wd n : Int) (big uns : Bool) (h4 : 4 ≤ wd) (h32 : wd ≤ 32) (hs : sampB n wd = true) (w : World) :
    Calls Tryz.prog 63 #[.agg (cellC wd big uns), .int .i64 n] w fun e w' => e = .returned (.string (textOf (codeL big wd uns n))) ∧ Below w.heap.size w w' := by
  obtain ⟨k1, k4, _, _⟩ := nby_range wd h4 h32
  have hr : -4294967296 ≤ n ∧ n ≤ 4294967296 := by have := samp_range n wd h4 h32 hs; omega
  have hf := codeN_fits wd uns n h4 h32 hs
  have hp : nby wd = nby wd := rfl
  show Calls Tryz.prog 63 #[.agg #[.int .i64 wd, .int .i64 (nby wd : Int), .bool big, .bool uns], .int .i64 n] w _
  have hc : nby wd = 1 ∨ nby wd = 2 ∨ nby wd = 3 ∨ nby wd = 4 := by omega
  rcases hc with hk | hk | hk | hk
  · have hk' : (nby wd : Int) = 1 := by omega
    rw [hk']
    clear hf
    cases uns
    · have hm : n % 256 = codeN wd false n := codeN_mod wd n 1 h4 h32 hs hk
      have hf := codeN_fits wd false n h4 h32 hs
      cases big
      · exact text_1falsefalse wd n _ h4 h32 hr.1 hr.2 _ _ hm (fun w => by have := le_spec (codeN wd false n) 1 (by omega) (by omega) w; rw [← hk', leT_code wd false n h4 h32 hs, hk'] at this; exact this) w
      · exact text_1falsetrue wd n _ h4 h32 hr.1 hr.2 _ _ hm (fun w => by have := be_spec (codeN wd false n) 1 (by omega) (by omega) w; rw [← hk', beT_code wd false n h4 h32 hs, hk'] at this; exact this) w
    · have hf := codeN_fits wd true n h4 h32 hs
      cases big
      · exact text_1truefalse wd n _ h4 h32 hr.1 hr.2 _ _ rfl (fun w => by have := le_spec (codeN wd true n) 1 (by omega) (by omega) w; rw [← hk', leT_code wd true n h4 h32 hs, hk'] at this; exact this) w
      · exact text_1truetrue wd n _ h4 h32 hr.1 hr.2 _ _ rfl (fun w => by have := be_spec (codeN wd true n) 1 (by omega) (by omega) w; rw [← hk', beT_code wd true n h4 h32 hs, hk'] at this; exact this) w
  · have hk' : (nby wd : Int) = 2 := by omega
    rw [hk']
    clear hf
    cases uns
    · have hm : n % 65536 = codeN wd false n := codeN_mod wd n 2 h4 h32 hs hk
      have hf := codeN_fits wd false n h4 h32 hs
      cases big
      · exact text_2falsefalse wd n _ h4 h32 hr.1 hr.2 _ _ hm (fun w => by have := le_spec (codeN wd false n) 2 (by omega) (by omega) w; rw [← hk', leT_code wd false n h4 h32 hs, hk'] at this; exact this) w
      · exact text_2falsetrue wd n _ h4 h32 hr.1 hr.2 _ _ hm (fun w => by have := be_spec (codeN wd false n) 2 (by omega) (by omega) w; rw [← hk', beT_code wd false n h4 h32 hs, hk'] at this; exact this) w
    · have hf := codeN_fits wd true n h4 h32 hs
      cases big
      · exact text_2truefalse wd n _ h4 h32 hr.1 hr.2 _ _ rfl (fun w => by have := le_spec (codeN wd true n) 2 (by omega) (by omega) w; rw [← hk', leT_code wd true n h4 h32 hs, hk'] at this; exact this) w
      · exact text_2truetrue wd n _ h4 h32 hr.1 hr.2 _ _ rfl (fun w => by have := be_spec (codeN wd true n) 2 (by omega) (by omega) w; rw [← hk', beT_code wd true n h4 h32 hs, hk'] at this; exact this) w
  · have hk' : (nby wd : Int) = 3 := by omega
    rw [hk']
    clear hf
    cases uns
    · have hm : n % 16777216 = codeN wd false n := codeN_mod wd n 3 h4 h32 hs hk
      have hf := codeN_fits wd false n h4 h32 hs
      cases big
      · exact text_3falsefalse wd n _ h4 h32 hr.1 hr.2 _ _ hm (fun w => by have := le_spec (codeN wd false n) 3 (by omega) (by omega) w; rw [← hk', leT_code wd false n h4 h32 hs, hk'] at this; exact this) w
      · exact text_3falsetrue wd n _ h4 h32 hr.1 hr.2 _ _ hm (fun w => by have := be_spec (codeN wd false n) 3 (by omega) (by omega) w; rw [← hk', beT_code wd false n h4 h32 hs, hk'] at this; exact this) w
    · have hf := codeN_fits wd true n h4 h32 hs
      cases big
      · exact text_3truefalse wd n _ h4 h32 hr.1 hr.2 _ _ rfl (fun w => by have := le_spec (codeN wd true n) 3 (by omega) (by omega) w; rw [← hk', leT_code wd true n h4 h32 hs, hk'] at this; exact this) w
      · exact text_3truetrue wd n _ h4 h32 hr.1 hr.2 _ _ rfl (fun w => by have := be_spec (codeN wd true n) 3 (by omega) (by omega) w; rw [← hk', beT_code wd true n h4 h32 hs, hk'] at this; exact this) w
  · have hk' : (nby wd : Int) = 4 := by omega
    rw [hk']
    clear hf
    cases uns
    · have hm : n % 4294967296 = codeN wd false n := codeN_mod wd n 4 h4 h32 hs hk
      have hf := codeN_fits wd false n h4 h32 hs
      cases big
      · exact text_4falsefalse wd n _ h4 h32 hr.1 hr.2 _ _ hm (fun w => by have := le_spec (codeN wd false n) 4 (by omega) (by omega) w; rw [← hk', leT_code wd false n h4 h32 hs, hk'] at this; exact this) w
      · exact text_4falsetrue wd n _ h4 h32 hr.1 hr.2 _ _ hm (fun w => by have := be_spec (codeN wd false n) 4 (by omega) (by omega) w; rw [← hk', beT_code wd false n h4 h32 hs, hk'] at this; exact this) w
    · have hf := codeN_fits wd true n h4 h32 hs
      cases big
      · exact text_4truefalse wd n _ h4 h32 hr.1 hr.2 _ _ rfl (fun w => by have := le_spec (codeN wd true n) 4 (by omega) (by omega) w; rw [← hk', leT_code wd true n h4 h32 hs, hk'] at this; exact this) w
      · exact text_4truetrue wd n _ h4 h32 hr.1 hr.2 _ _ rfl (fun w => by have := be_spec (codeN wd true n) 4 (by omega) (by omega) w; rw [← hk', beT_code wd true n h4 h32 hs, hk'] at this; exact this) w

end Go.Proofs.YtaepgjheknkojaaGreat
