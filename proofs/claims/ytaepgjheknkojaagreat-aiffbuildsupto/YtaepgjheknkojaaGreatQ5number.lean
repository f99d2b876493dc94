/- Own text: the walk of a cell's number. -/
import Derived.Test.YtaepgjheknkojaaGreatQ5text
namespace Go.Proofs.YtaepgjheknkojaaGreat
open Go.RowKit
set_option linter.unusedSimpArgs false
set_option linter.unusedVariables false

set_option maxRecDepth 20000 in
set_option maxHeartbeats 1600000 in
theorem num_1truetruefalse (wd : Int) (h4 : 4 ≤ wd) (h32 : wd ≤ 32) (r : ByteArray) (a b : Int) (ha1 : 0 ≤ a) (ha2 : a < 256) (hb1 : 0 ≤ b) (hb2 : b < 256) 
    (kl : ∀ w, Calls Tryz.prog 125 #[.string r] w fun e w' => e = .returned (.int .i64 a) ∧ w' = w) (kb : ∀ w, Calls Tryz.prog 88 #[.string r] w fun e w' => e = .returned (.int .i64 b) ∧ w' = w) (w : World) :
    Calls Tryz.prog 104 #[.agg #[.int .i64 wd, .int .i64 1, .bool true, .bool true], .string r] w fun e w' => e = .returned (.int .i64 (b - 2 ^ (wd - 1).toNat)) ∧ Below w.heap.size w w' := by
  obtain ⟨hp1, hp2⟩ := pow33 (wd - 1).toNat (by omega)
  have kh := half_spec wd (by omega) (by omega)
  generalize (2 : Int) ^ (wd - 1).toNat = h at *
  go_enter Tryz.func104, Tryz.ntmps104
  go_wp2_with fail
  refine (kl _).mono ?_
  rintro e w2 ⟨rfl, rfl⟩
  go_wp2_with fail
  refine (kb _).mono ?_
  rintro e w2 ⟨rfl, rfl⟩
  go_wp2_with fail
  refine (kh _).mono ?_
  rintro e w3 ⟨rfl, rfl⟩
  go_wp2_with fail
  go_ret
  exact ⟨rfl, (Below.refl _ _).alloc (Nat.le_refl _) _⟩

set_option maxRecDepth 20000 in
set_option maxHeartbeats 1600000 in
theorem num_1truefalsetrue (wd : Int) (h4 : 4 ≤ wd) (h32 : wd ≤ 32) (r : ByteArray) (a b : Int) (ha1 : 0 ≤ a) (ha2 : a < 256) (hb1 : 0 ≤ b) (hb2 : b < 256) (hx : 128 ≤ b) 
    (kl : ∀ w, Calls Tryz.prog 125 #[.string r] w fun e w' => e = .returned (.int .i64 a) ∧ w' = w) (kb : ∀ w, Calls Tryz.prog 88 #[.string r] w fun e w' => e = .returned (.int .i64 b) ∧ w' = w) (w : World) :
    Calls Tryz.prog 104 #[.agg #[.int .i64 wd, .int .i64 1, .bool true, .bool false], .string r] w fun e w' => e = .returned (.int .i64 (b - 256)) ∧ Below w.heap.size w w' := by
  have kh : ∀ w, Calls Tryz.prog 92 #[.int .i64 8] w fun e w' => e = .returned (.int .i64 128) ∧ w' = w := fun w => half_spec 8 (by decide) (by decide) w
  go_enter Tryz.func104, Tryz.ntmps104
  go_wp2_with fail
  refine (kl _).mono ?_
  rintro e w2 ⟨rfl, rfl⟩
  go_wp2_with fail
  refine (kb _).mono ?_
  rintro e w2 ⟨rfl, rfl⟩
  go_wp2_with fail
  refine (kh _).mono ?_
  rintro e w3 ⟨rfl, rfl⟩
  go_wp2_with fail
  go_ret
  exact ⟨rfl, (Below.refl _ _).alloc (Nat.le_refl _) _⟩

set_option maxRecDepth 20000 in
set_option maxHeartbeats 1600000 in
theorem num_1truefalsefalse (wd : Int) (h4 : 4 ≤ wd) (h32 : wd ≤ 32) (r : ByteArray) (a b : Int) (ha1 : 0 ≤ a) (ha2 : a < 256) (hb1 : 0 ≤ b) (hb2 : b < 256) (hx : ¬ 128 ≤ b) 
    (kl : ∀ w, Calls Tryz.prog 125 #[.string r] w fun e w' => e = .returned (.int .i64 a) ∧ w' = w) (kb : ∀ w, Calls Tryz.prog 88 #[.string r] w fun e w' => e = .returned (.int .i64 b) ∧ w' = w) (w : World) :
    Calls Tryz.prog 104 #[.agg #[.int .i64 wd, .int .i64 1, .bool true, .bool false], .string r] w fun e w' => e = .returned (.int .i64 (b)) ∧ Below w.heap.size w w' := by
  have kh : ∀ w, Calls Tryz.prog 92 #[.int .i64 8] w fun e w' => e = .returned (.int .i64 128) ∧ w' = w := fun w => half_spec 8 (by decide) (by decide) w
  go_enter Tryz.func104, Tryz.ntmps104
  go_wp2_with fail
  refine (kl _).mono ?_
  rintro e w2 ⟨rfl, rfl⟩
  go_wp2_with fail
  refine (kb _).mono ?_
  rintro e w2 ⟨rfl, rfl⟩
  go_wp2_with fail
  refine (kh _).mono ?_
  rintro e w3 ⟨rfl, rfl⟩
  go_wp2_with fail
  go_ret
  exact ⟨rfl, (Below.refl _ _).alloc (Nat.le_refl _) _⟩

set_option maxRecDepth 20000 in
set_option maxHeartbeats 1600000 in
theorem num_1falsetruefalse (wd : Int) (h4 : 4 ≤ wd) (h32 : wd ≤ 32) (r : ByteArray) (a b : Int) (ha1 : 0 ≤ a) (ha2 : a < 256) (hb1 : 0 ≤ b) (hb2 : b < 256) 
    (kl : ∀ w, Calls Tryz.prog 125 #[.string r] w fun e w' => e = .returned (.int .i64 a) ∧ w' = w) (kb : ∀ w, Calls Tryz.prog 88 #[.string r] w fun e w' => e = .returned (.int .i64 b) ∧ w' = w) (w : World) :
    Calls Tryz.prog 104 #[.agg #[.int .i64 wd, .int .i64 1, .bool false, .bool true], .string r] w fun e w' => e = .returned (.int .i64 (a - 2 ^ (wd - 1).toNat)) ∧ Below w.heap.size w w' := by
  obtain ⟨hp1, hp2⟩ := pow33 (wd - 1).toNat (by omega)
  have kh := half_spec wd (by omega) (by omega)
  generalize (2 : Int) ^ (wd - 1).toNat = h at *
  go_enter Tryz.func104, Tryz.ntmps104
  go_wp2_with fail
  refine (kl _).mono ?_
  rintro e w2 ⟨rfl, rfl⟩
  go_wp2_with fail
  refine (kh _).mono ?_
  rintro e w3 ⟨rfl, rfl⟩
  go_wp2_with fail
  go_ret
  exact ⟨rfl, (Below.refl _ _).alloc (Nat.le_refl _) _⟩

set_option maxRecDepth 20000 in
set_option maxHeartbeats 1600000 in
theorem num_1falsefalsetrue (wd : Int) (h4 : 4 ≤ wd) (h32 : wd ≤ 32) (r : ByteArray) (a b : Int) (ha1 : 0 ≤ a) (ha2 : a < 256) (hb1 : 0 ≤ b) (hb2 : b < 256) (hx : 128 ≤ a) 
    (kl : ∀ w, Calls Tryz.prog 125 #[.string r] w fun e w' => e = .returned (.int .i64 a) ∧ w' = w) (kb : ∀ w, Calls Tryz.prog 88 #[.string r] w fun e w' => e = .returned (.int .i64 b) ∧ w' = w) (w : World) :
    Calls Tryz.prog 104 #[.agg #[.int .i64 wd, .int .i64 1, .bool false, .bool false], .string r] w fun e w' => e = .returned (.int .i64 (a - 256)) ∧ Below w.heap.size w w' := by
  have kh : ∀ w, Calls Tryz.prog 92 #[.int .i64 8] w fun e w' => e = .returned (.int .i64 128) ∧ w' = w := fun w => half_spec 8 (by decide) (by decide) w
  go_enter Tryz.func104, Tryz.ntmps104
  go_wp2_with fail
  refine (kl _).mono ?_
  rintro e w2 ⟨rfl, rfl⟩
  go_wp2_with fail
  refine (kh _).mono ?_
  rintro e w3 ⟨rfl, rfl⟩
  go_wp2_with fail
  go_ret
  exact ⟨rfl, (Below.refl _ _).alloc (Nat.le_refl _) _⟩

set_option maxRecDepth 20000 in
set_option maxHeartbeats 1600000 in
theorem num_1falsefalsefalse (wd : Int) (h4 : 4 ≤ wd) (h32 : wd ≤ 32) (r : ByteArray) (a b : Int) (ha1 : 0 ≤ a) (ha2 : a < 256) (hb1 : 0 ≤ b) (hb2 : b < 256) (hx : ¬ 128 ≤ a) 
    (kl : ∀ w, Calls Tryz.prog 125 #[.string r] w fun e w' => e = .returned (.int .i64 a) ∧ w' = w) (kb : ∀ w, Calls Tryz.prog 88 #[.string r] w fun e w' => e = .returned (.int .i64 b) ∧ w' = w) (w : World) :
    Calls Tryz.prog 104 #[.agg #[.int .i64 wd, .int .i64 1, .bool false, .bool false], .string r] w fun e w' => e = .returned (.int .i64 (a)) ∧ Below w.heap.size w w' := by
  have kh : ∀ w, Calls Tryz.prog 92 #[.int .i64 8] w fun e w' => e = .returned (.int .i64 128) ∧ w' = w := fun w => half_spec 8 (by decide) (by decide) w
  go_enter Tryz.func104, Tryz.ntmps104
  go_wp2_with fail
  refine (kl _).mono ?_
  rintro e w2 ⟨rfl, rfl⟩
  go_wp2_with fail
  refine (kh _).mono ?_
  rintro e w3 ⟨rfl, rfl⟩
  go_wp2_with fail
  go_ret
  exact ⟨rfl, (Below.refl _ _).alloc (Nat.le_refl _) _⟩

set_option maxRecDepth 20000 in
set_option maxHeartbeats 1600000 in
theorem num_2truetruefalse (wd : Int) (h4 : 4 ≤ wd) (h32 : wd ≤ 32) (r : ByteArray) (a b : Int) (ha1 : 0 ≤ a) (ha2 : a < 65536) (hb1 : 0 ≤ b) (hb2 : b < 65536) 
    (kl : ∀ w, Calls Tryz.prog 125 #[.string r] w fun e w' => e = .returned (.int .i64 a) ∧ w' = w) (kb : ∀ w, Calls Tryz.prog 88 #[.string r] w fun e w' => e = .returned (.int .i64 b) ∧ w' = w) (w : World) :
    Calls Tryz.prog 104 #[.agg #[.int .i64 wd, .int .i64 2, .bool true, .bool true], .string r] w fun e w' => e = .returned (.int .i64 (b - 2 ^ (wd - 1).toNat)) ∧ Below w.heap.size w w' := by
  obtain ⟨hp1, hp2⟩ := pow33 (wd - 1).toNat (by omega)
  have kh := half_spec wd (by omega) (by omega)
  generalize (2 : Int) ^ (wd - 1).toNat = h at *
  go_enter Tryz.func104, Tryz.ntmps104
  go_wp2_with fail
  refine (kl _).mono ?_
  rintro e w2 ⟨rfl, rfl⟩
  go_wp2_with fail
  refine (kb _).mono ?_
  rintro e w2 ⟨rfl, rfl⟩
  go_wp2_with fail
  refine (kh _).mono ?_
  rintro e w3 ⟨rfl, rfl⟩
  go_wp2_with fail
  go_ret
  exact ⟨rfl, (Below.refl _ _).alloc (Nat.le_refl _) _⟩

set_option maxRecDepth 20000 in
set_option maxHeartbeats 1600000 in
theorem num_2truefalsetrue (wd : Int) (h4 : 4 ≤ wd) (h32 : wd ≤ 32) (r : ByteArray) (a b : Int) (ha1 : 0 ≤ a) (ha2 : a < 65536) (hb1 : 0 ≤ b) (hb2 : b < 65536) (hx : 32768 ≤ b) 
    (kl : ∀ w, Calls Tryz.prog 125 #[.string r] w fun e w' => e = .returned (.int .i64 a) ∧ w' = w) (kb : ∀ w, Calls Tryz.prog 88 #[.string r] w fun e w' => e = .returned (.int .i64 b) ∧ w' = w) (w : World) :
    Calls Tryz.prog 104 #[.agg #[.int .i64 wd, .int .i64 2, .bool true, .bool false], .string r] w fun e w' => e = .returned (.int .i64 (b - 65536)) ∧ Below w.heap.size w w' := by
  have kh : ∀ w, Calls Tryz.prog 92 #[.int .i64 16] w fun e w' => e = .returned (.int .i64 32768) ∧ w' = w := fun w => half_spec 16 (by decide) (by decide) w
  go_enter Tryz.func104, Tryz.ntmps104
  go_wp2_with fail
  refine (kl _).mono ?_
  rintro e w2 ⟨rfl, rfl⟩
  go_wp2_with fail
  refine (kb _).mono ?_
  rintro e w2 ⟨rfl, rfl⟩
  go_wp2_with fail
  refine (kh _).mono ?_
  rintro e w3 ⟨rfl, rfl⟩
  go_wp2_with fail
  go_ret
  exact ⟨rfl, (Below.refl _ _).alloc (Nat.le_refl _) _⟩

set_option maxRecDepth 20000 in
set_option maxHeartbeats 1600000 in
theorem num_2truefalsefalse (wd : Int) (h4 : 4 ≤ wd) (h32 : wd ≤ 32) (r : ByteArray) (a b : Int) (ha1 : 0 ≤ a) (ha2 : a < 65536) (hb1 : 0 ≤ b) (hb2 : b < 65536) (hx : ¬ 32768 ≤ b) 
    (kl : ∀ w, Calls Tryz.prog 125 #[.string r] w fun e w' => e = .returned (.int .i64 a) ∧ w' = w) (kb : ∀ w, Calls Tryz.prog 88 #[.string r] w fun e w' => e = .returned (.int .i64 b) ∧ w' = w) (w : World) :
    Calls Tryz.prog 104 #[.agg #[.int .i64 wd, .int .i64 2, .bool true, .bool false], .string r] w fun e w' => e = .returned (.int .i64 (b)) ∧ Below w.heap.size w w' := by
  have kh : ∀ w, Calls Tryz.prog 92 #[.int .i64 16] w fun e w' => e = .returned (.int .i64 32768) ∧ w' = w := fun w => half_spec 16 (by decide) (by decide) w
  go_enter Tryz.func104, Tryz.ntmps104
  go_wp2_with fail
  refine (kl _).mono ?_
  rintro e w2 ⟨rfl, rfl⟩
  go_wp2_with fail
  refine (kb _).mono ?_
  rintro e w2 ⟨rfl, rfl⟩
  go_wp2_with fail
  refine (kh _).mono ?_
  rintro e w3 ⟨rfl, rfl⟩
  go_wp2_with fail
  go_ret
  exact ⟨rfl, (Below.refl _ _).alloc (Nat.le_refl _) _⟩

set_option maxRecDepth 20000 in
set_option maxHeartbeats 1600000 in
theorem num_2falsetruefalse (wd : Int) (h4 : 4 ≤ wd) (h32 : wd ≤ 32) (r : ByteArray) (a b : Int) (ha1 : 0 ≤ a) (ha2 : a < 65536) (hb1 : 0 ≤ b) (hb2 : b < 65536) 
    (kl : ∀ w, Calls Tryz.prog 125 #[.string r] w fun e w' => e = .returned (.int .i64 a) ∧ w' = w) (kb : ∀ w, Calls Tryz.prog 88 #[.string r] w fun e w' => e = .returned (.int .i64 b) ∧ w' = w) (w : World) :
    Calls Tryz.prog 104 #[.agg #[.int .i64 wd, .int .i64 2, .bool false, .bool true], .string r] w fun e w' => e = .returned (.int .i64 (a - 2 ^ (wd - 1).toNat)) ∧ Below w.heap.size w w' := by
  obtain ⟨hp1, hp2⟩ := pow33 (wd - 1).toNat (by omega)
  have kh := half_spec wd (by omega) (by omega)
  generalize (2 : Int) ^ (wd - 1).toNat = h at *
  go_enter Tryz.func104, Tryz.ntmps104
  go_wp2_with fail
  refine (kl _).mono ?_
  rintro e w2 ⟨rfl, rfl⟩
  go_wp2_with fail
  refine (kh _).mono ?_
  rintro e w3 ⟨rfl, rfl⟩
  go_wp2_with fail
  go_ret
  exact ⟨rfl, (Below.refl _ _).alloc (Nat.le_refl _) _⟩

set_option maxRecDepth 20000 in
set_option maxHeartbeats 1600000 in
theorem num_2falsefalsetrue (wd : Int) (h4 : 4 ≤ wd) (h32 : wd ≤ 32) (r : ByteArray) (a b : Int) (ha1 : 0 ≤ a) (ha2 : a < 65536) (hb1 : 0 ≤ b) (hb2 : b < 65536) (hx : 32768 ≤ a) 
    (kl : ∀ w, Calls Tryz.prog 125 #[.string r] w fun e w' => e = .returned (.int .i64 a) ∧ w' = w) (kb : ∀ w, Calls Tryz.prog 88 #[.string r] w fun e w' => e = .returned (.int .i64 b) ∧ w' = w) (w : World) :
    Calls Tryz.prog 104 #[.agg #[.int .i64 wd, .int .i64 2, .bool false, .bool false], .string r] w fun e w' => e = .returned (.int .i64 (a - 65536)) ∧ Below w.heap.size w w' := by
  have kh : ∀ w, Calls Tryz.prog 92 #[.int .i64 16] w fun e w' => e = .returned (.int .i64 32768) ∧ w' = w := fun w => half_spec 16 (by decide) (by decide) w
  go_enter Tryz.func104, Tryz.ntmps104
  go_wp2_with fail
  refine (kl _).mono ?_
  rintro e w2 ⟨rfl, rfl⟩
  go_wp2_with fail
  refine (kh _).mono ?_
  rintro e w3 ⟨rfl, rfl⟩
  go_wp2_with fail
  go_ret
  exact ⟨rfl, (Below.refl _ _).alloc (Nat.le_refl _) _⟩

set_option maxRecDepth 20000 in
set_option maxHeartbeats 1600000 in
theorem num_2falsefalsefalse (wd : Int) (h4 : 4 ≤ wd) (h32 : wd ≤ 32) (r : ByteArray) (a b : Int) (ha1 : 0 ≤ a) (ha2 : a < 65536) (hb1 : 0 ≤ b) (hb2 : b < 65536) (hx : ¬ 32768 ≤ a) 
    (kl : ∀ w, Calls Tryz.prog 125 #[.string r] w fun e w' => e = .returned (.int .i64 a) ∧ w' = w) (kb : ∀ w, Calls Tryz.prog 88 #[.string r] w fun e w' => e = .returned (.int .i64 b) ∧ w' = w) (w : World) :
    Calls Tryz.prog 104 #[.agg #[.int .i64 wd, .int .i64 2, .bool false, .bool false], .string r] w fun e w' => e = .returned (.int .i64 (a)) ∧ Below w.heap.size w w' := by
  have kh : ∀ w, Calls Tryz.prog 92 #[.int .i64 16] w fun e w' => e = .returned (.int .i64 32768) ∧ w' = w := fun w => half_spec 16 (by decide) (by decide) w
  go_enter Tryz.func104, Tryz.ntmps104
  go_wp2_with fail
  refine (kl _).mono ?_
  rintro e w2 ⟨rfl, rfl⟩
  go_wp2_with fail
  refine (kh _).mono ?_
  rintro e w3 ⟨rfl, rfl⟩
  go_wp2_with fail
  go_ret
  exact ⟨rfl, (Below.refl _ _).alloc (Nat.le_refl _) _⟩

set_option maxRecDepth 20000 in
set_option maxHeartbeats 1600000 in
theorem num_3truetruefalse (wd : Int) (h4 : 4 ≤ wd) (h32 : wd ≤ 32) (r : ByteArray) (a b : Int) (ha1 : 0 ≤ a) (ha2 : a < 16777216) (hb1 : 0 ≤ b) (hb2 : b < 16777216) 
    (kl : ∀ w, Calls Tryz.prog 125 #[.string r] w fun e w' => e = .returned (.int .i64 a) ∧ w' = w) (kb : ∀ w, Calls Tryz.prog 88 #[.string r] w fun e w' => e = .returned (.int .i64 b) ∧ w' = w) (w : World) :
    Calls Tryz.prog 104 #[.agg #[.int .i64 wd, .int .i64 3, .bool true, .bool true], .string r] w fun e w' => e = .returned (.int .i64 (b - 2 ^ (wd - 1).toNat)) ∧ Below w.heap.size w w' := by
  obtain ⟨hp1, hp2⟩ := pow33 (wd - 1).toNat (by omega)
  have kh := half_spec wd (by omega) (by omega)
  generalize (2 : Int) ^ (wd - 1).toNat = h at *
  go_enter Tryz.func104, Tryz.ntmps104
  go_wp2_with fail
  refine (kl _).mono ?_
  rintro e w2 ⟨rfl, rfl⟩
  go_wp2_with fail
  refine (kb _).mono ?_
  rintro e w2 ⟨rfl, rfl⟩
  go_wp2_with fail
  refine (kh _).mono ?_
  rintro e w3 ⟨rfl, rfl⟩
  go_wp2_with fail
  go_ret
  exact ⟨rfl, (Below.refl _ _).alloc (Nat.le_refl _) _⟩

set_option maxRecDepth 20000 in
set_option maxHeartbeats 1600000 in
theorem num_3truefalsetrue (wd : Int) (h4 : 4 ≤ wd) (h32 : wd ≤ 32) (r : ByteArray) (a b : Int) (ha1 : 0 ≤ a) (ha2 : a < 16777216) (hb1 : 0 ≤ b) (hb2 : b < 16777216) (hx : 8388608 ≤ b) 
    (kl : ∀ w, Calls Tryz.prog 125 #[.string r] w fun e w' => e = .returned (.int .i64 a) ∧ w' = w) (kb : ∀ w, Calls Tryz.prog 88 #[.string r] w fun e w' => e = .returned (.int .i64 b) ∧ w' = w) (w : World) :
    Calls Tryz.prog 104 #[.agg #[.int .i64 wd, .int .i64 3, .bool true, .bool false], .string r] w fun e w' => e = .returned (.int .i64 (b - 16777216)) ∧ Below w.heap.size w w' := by
  have kh : ∀ w, Calls Tryz.prog 92 #[.int .i64 24] w fun e w' => e = .returned (.int .i64 8388608) ∧ w' = w := fun w => half_spec 24 (by decide) (by decide) w
  go_enter Tryz.func104, Tryz.ntmps104
  go_wp2_with fail
  refine (kl _).mono ?_
  rintro e w2 ⟨rfl, rfl⟩
  go_wp2_with fail
  refine (kb _).mono ?_
  rintro e w2 ⟨rfl, rfl⟩
  go_wp2_with fail
  refine (kh _).mono ?_
  rintro e w3 ⟨rfl, rfl⟩
  go_wp2_with fail
  go_ret
  exact ⟨rfl, (Below.refl _ _).alloc (Nat.le_refl _) _⟩

set_option maxRecDepth 20000 in
set_option maxHeartbeats 1600000 in
theorem num_3truefalsefalse (wd : Int) (h4 : 4 ≤ wd) (h32 : wd ≤ 32) (r : ByteArray) (a b : Int) (ha1 : 0 ≤ a) (ha2 : a < 16777216) (hb1 : 0 ≤ b) (hb2 : b < 16777216) (hx : ¬ 8388608 ≤ b) 
    (kl : ∀ w, Calls Tryz.prog 125 #[.string r] w fun e w' => e = .returned (.int .i64 a) ∧ w' = w) (kb : ∀ w, Calls Tryz.prog 88 #[.string r] w fun e w' => e = .returned (.int .i64 b) ∧ w' = w) (w : World) :
    Calls Tryz.prog 104 #[.agg #[.int .i64 wd, .int .i64 3, .bool true, .bool false], .string r] w fun e w' => e = .returned (.int .i64 (b)) ∧ Below w.heap.size w w' := by
  have kh : ∀ w, Calls Tryz.prog 92 #[.int .i64 24] w fun e w' => e = .returned (.int .i64 8388608) ∧ w' = w := fun w => half_spec 24 (by decide) (by decide) w
  go_enter Tryz.func104, Tryz.ntmps104
  go_wp2_with fail
  refine (kl _).mono ?_
  rintro e w2 ⟨rfl, rfl⟩
  go_wp2_with fail
  refine (kb _).mono ?_
  rintro e w2 ⟨rfl, rfl⟩
  go_wp2_with fail
  refine (kh _).mono ?_
  rintro e w3 ⟨rfl, rfl⟩
  go_wp2_with fail
  go_ret
  exact ⟨rfl, (Below.refl _ _).alloc (Nat.le_refl _) _⟩

set_option maxRecDepth 20000 in
set_option maxHeartbeats 1600000 in
theorem num_3falsetruefalse (wd : Int) (h4 : 4 ≤ wd) (h32 : wd ≤ 32) (r : ByteArray) (a b : Int) (ha1 : 0 ≤ a) (ha2 : a < 16777216) (hb1 : 0 ≤ b) (hb2 : b < 16777216) 
    (kl : ∀ w, Calls Tryz.prog 125 #[.string r] w fun e w' => e = .returned (.int .i64 a) ∧ w' = w) (kb : ∀ w, Calls Tryz.prog 88 #[.string r] w fun e w' => e = .returned (.int .i64 b) ∧ w' = w) (w : World) :
    Calls Tryz.prog 104 #[.agg #[.int .i64 wd, .int .i64 3, .bool false, .bool true], .string r] w fun e w' => e = .returned (.int .i64 (a - 2 ^ (wd - 1).toNat)) ∧ Below w.heap.size w w' := by
  obtain ⟨hp1, hp2⟩ := pow33 (wd - 1).toNat (by omega)
  have kh := half_spec wd (by omega) (by omega)
  generalize (2 : Int) ^ (wd - 1).toNat = h at *
  go_enter Tryz.func104, Tryz.ntmps104
  go_wp2_with fail
  refine (kl _).mono ?_
  rintro e w2 ⟨rfl, rfl⟩
  go_wp2_with fail
  refine (kh _).mono ?_
  rintro e w3 ⟨rfl, rfl⟩
  go_wp2_with fail
  go_ret
  exact ⟨rfl, (Below.refl _ _).alloc (Nat.le_refl _) _⟩

set_option maxRecDepth 20000 in
set_option maxHeartbeats 1600000 in
theorem num_3falsefalsetrue (wd : Int) (h4 : 4 ≤ wd) (h32 : wd ≤ 32) (r : ByteArray) (a b : Int) (ha1 : 0 ≤ a) (ha2 : a < 16777216) (hb1 : 0 ≤ b) (hb2 : b < 16777216) (hx : 8388608 ≤ a) 
    (kl : ∀ w, Calls Tryz.prog 125 #[.string r] w fun e w' => e = .returned (.int .i64 a) ∧ w' = w) (kb : ∀ w, Calls Tryz.prog 88 #[.string r] w fun e w' => e = .returned (.int .i64 b) ∧ w' = w) (w : World) :
    Calls Tryz.prog 104 #[.agg #[.int .i64 wd, .int .i64 3, .bool false, .bool false], .string r] w fun e w' => e = .returned (.int .i64 (a - 16777216)) ∧ Below w.heap.size w w' := by
  have kh : ∀ w, Calls Tryz.prog 92 #[.int .i64 24] w fun e w' => e = .returned (.int .i64 8388608) ∧ w' = w := fun w => half_spec 24 (by decide) (by decide) w
  go_enter Tryz.func104, Tryz.ntmps104
  go_wp2_with fail
  refine (kl _).mono ?_
  rintro e w2 ⟨rfl, rfl⟩
  go_wp2_with fail
  refine (kh _).mono ?_
  rintro e w3 ⟨rfl, rfl⟩
  go_wp2_with fail
  go_ret
  exact ⟨rfl, (Below.refl _ _).alloc (Nat.le_refl _) _⟩

set_option maxRecDepth 20000 in
set_option maxHeartbeats 1600000 in
theorem num_3falsefalsefalse (wd : Int) (h4 : 4 ≤ wd) (h32 : wd ≤ 32) (r : ByteArray) (a b : Int) (ha1 : 0 ≤ a) (ha2 : a < 16777216) (hb1 : 0 ≤ b) (hb2 : b < 16777216) (hx : ¬ 8388608 ≤ a) 
    (kl : ∀ w, Calls Tryz.prog 125 #[.string r] w fun e w' => e = .returned (.int .i64 a) ∧ w' = w) (kb : ∀ w, Calls Tryz.prog 88 #[.string r] w fun e w' => e = .returned (.int .i64 b) ∧ w' = w) (w : World) :
    Calls Tryz.prog 104 #[.agg #[.int .i64 wd, .int .i64 3, .bool false, .bool false], .string r] w fun e w' => e = .returned (.int .i64 (a)) ∧ Below w.heap.size w w' := by
  have kh : ∀ w, Calls Tryz.prog 92 #[.int .i64 24] w fun e w' => e = .returned (.int .i64 8388608) ∧ w' = w := fun w => half_spec 24 (by decide) (by decide) w
  go_enter Tryz.func104, Tryz.ntmps104
  go_wp2_with fail
  refine (kl _).mono ?_
  rintro e w2 ⟨rfl, rfl⟩
  go_wp2_with fail
  refine (kh _).mono ?_
  rintro e w3 ⟨rfl, rfl⟩
  go_wp2_with fail
  go_ret
  exact ⟨rfl, (Below.refl _ _).alloc (Nat.le_refl _) _⟩

set_option maxRecDepth 20000 in
set_option maxHeartbeats 1600000 in
theorem num_4truetruefalse (wd : Int) (h4 : 4 ≤ wd) (h32 : wd ≤ 32) (r : ByteArray) (a b : Int) (ha1 : 0 ≤ a) (ha2 : a < 4294967296) (hb1 : 0 ≤ b) (hb2 : b < 4294967296) 
    (kl : ∀ w, Calls Tryz.prog 125 #[.string r] w fun e w' => e = .returned (.int .i64 a) ∧ w' = w) (kb : ∀ w, Calls Tryz.prog 88 #[.string r] w fun e w' => e = .returned (.int .i64 b) ∧ w' = w) (w : World) :
    Calls Tryz.prog 104 #[.agg #[.int .i64 wd, .int .i64 4, .bool true, .bool true], .string r] w fun e w' => e = .returned (.int .i64 (b - 2 ^ (wd - 1).toNat)) ∧ Below w.heap.size w w' := by
  obtain ⟨hp1, hp2⟩ := pow33 (wd - 1).toNat (by omega)
  have kh := half_spec wd (by omega) (by omega)
  generalize (2 : Int) ^ (wd - 1).toNat = h at *
  go_enter Tryz.func104, Tryz.ntmps104
  go_wp2_with fail
  refine (kl _).mono ?_
  rintro e w2 ⟨rfl, rfl⟩
  go_wp2_with fail
  refine (kb _).mono ?_
  rintro e w2 ⟨rfl, rfl⟩
  go_wp2_with fail
  refine (kh _).mono ?_
  rintro e w3 ⟨rfl, rfl⟩
  go_wp2_with fail
  go_ret
  exact ⟨rfl, (Below.refl _ _).alloc (Nat.le_refl _) _⟩

set_option maxRecDepth 20000 in
set_option maxHeartbeats 1600000 in
theorem num_4truefalsetrue (wd : Int) (h4 : 4 ≤ wd) (h32 : wd ≤ 32) (r : ByteArray) (a b : Int) (ha1 : 0 ≤ a) (ha2 : a < 4294967296) (hb1 : 0 ≤ b) (hb2 : b < 4294967296) (hx : 2147483648 ≤ b) 
    (kl : ∀ w, Calls Tryz.prog 125 #[.string r] w fun e w' => e = .returned (.int .i64 a) ∧ w' = w) (kb : ∀ w, Calls Tryz.prog 88 #[.string r] w fun e w' => e = .returned (.int .i64 b) ∧ w' = w) (w : World) :
    Calls Tryz.prog 104 #[.agg #[.int .i64 wd, .int .i64 4, .bool true, .bool false], .string r] w fun e w' => e = .returned (.int .i64 (b - 4294967296)) ∧ Below w.heap.size w w' := by
  have kh : ∀ w, Calls Tryz.prog 92 #[.int .i64 32] w fun e w' => e = .returned (.int .i64 2147483648) ∧ w' = w := fun w => half_spec 32 (by decide) (by decide) w
  go_enter Tryz.func104, Tryz.ntmps104
  go_wp2_with fail
  refine (kl _).mono ?_
  rintro e w2 ⟨rfl, rfl⟩
  go_wp2_with fail
  refine (kb _).mono ?_
  rintro e w2 ⟨rfl, rfl⟩
  go_wp2_with fail
  refine (kh _).mono ?_
  rintro e w3 ⟨rfl, rfl⟩
  go_wp2_with fail
  go_ret
  exact ⟨rfl, (Below.refl _ _).alloc (Nat.le_refl _) _⟩

set_option maxRecDepth 20000 in
set_option maxHeartbeats 1600000 in
theorem num_4truefalsefalse (wd : Int) (h4 : 4 ≤ wd) (h32 : wd ≤ 32) (r : ByteArray) (a b : Int) (ha1 : 0 ≤ a) (ha2 : a < 4294967296) (hb1 : 0 ≤ b) (hb2 : b < 4294967296) (hx : ¬ 2147483648 ≤ b) 
    (kl : ∀ w, Calls Tryz.prog 125 #[.string r] w fun e w' => e = .returned (.int .i64 a) ∧ w' = w) (kb : ∀ w, Calls Tryz.prog 88 #[.string r] w fun e w' => e = .returned (.int .i64 b) ∧ w' = w) (w : World) :
    Calls Tryz.prog 104 #[.agg #[.int .i64 wd, .int .i64 4, .bool true, .bool false], .string r] w fun e w' => e = .returned (.int .i64 (b)) ∧ Below w.heap.size w w' := by
  have kh : ∀ w, Calls Tryz.prog 92 #[.int .i64 32] w fun e w' => e = .returned (.int .i64 2147483648) ∧ w' = w := fun w => half_spec 32 (by decide) (by decide) w
  go_enter Tryz.func104, Tryz.ntmps104
  go_wp2_with fail
  refine (kl _).mono ?_
  rintro e w2 ⟨rfl, rfl⟩
  go_wp2_with fail
  refine (kb _).mono ?_
  rintro e w2 ⟨rfl, rfl⟩
  go_wp2_with fail
  refine (kh _).mono ?_
  rintro e w3 ⟨rfl, rfl⟩
  go_wp2_with fail
  go_ret
  exact ⟨rfl, (Below.refl _ _).alloc (Nat.le_refl _) _⟩

set_option maxRecDepth 20000 in
set_option maxHeartbeats 1600000 in
theorem num_4falsetruefalse (wd : Int) (h4 : 4 ≤ wd) (h32 : wd ≤ 32) (r : ByteArray) (a b : Int) (ha1 : 0 ≤ a) (ha2 : a < 4294967296) (hb1 : 0 ≤ b) (hb2 : b < 4294967296) 
    (kl : ∀ w, Calls Tryz.prog 125 #[.string r] w fun e w' => e = .returned (.int .i64 a) ∧ w' = w) (kb : ∀ w, Calls Tryz.prog 88 #[.string r] w fun e w' => e = .returned (.int .i64 b) ∧ w' = w) (w : World) :
    Calls Tryz.prog 104 #[.agg #[.int .i64 wd, .int .i64 4, .bool false, .bool true], .string r] w fun e w' => e = .returned (.int .i64 (a - 2 ^ (wd - 1).toNat)) ∧ Below w.heap.size w w' := by
  obtain ⟨hp1, hp2⟩ := pow33 (wd - 1).toNat (by omega)
  have kh := half_spec wd (by omega) (by omega)
  generalize (2 : Int) ^ (wd - 1).toNat = h at *
  go_enter Tryz.func104, Tryz.ntmps104
  go_wp2_with fail
  refine (kl _).mono ?_
  rintro e w2 ⟨rfl, rfl⟩
  go_wp2_with fail
  refine (kh _).mono ?_
  rintro e w3 ⟨rfl, rfl⟩
  go_wp2_with fail
  go_ret
  exact ⟨rfl, (Below.refl _ _).alloc (Nat.le_refl _) _⟩

set_option maxRecDepth 20000 in
set_option maxHeartbeats 1600000 in
theorem num_4falsefalsetrue (wd : Int) (h4 : 4 ≤ wd) (h32 : wd ≤ 32) (r : ByteArray) (a b : Int) (ha1 : 0 ≤ a) (ha2 : a < 4294967296) (hb1 : 0 ≤ b) (hb2 : b < 4294967296) (hx : 2147483648 ≤ a) 
    (kl : ∀ w, Calls Tryz.prog 125 #[.string r] w fun e w' => e = .returned (.int .i64 a) ∧ w' = w) (kb : ∀ w, Calls Tryz.prog 88 #[.string r] w fun e w' => e = .returned (.int .i64 b) ∧ w' = w) (w : World) :
    Calls Tryz.prog 104 #[.agg #[.int .i64 wd, .int .i64 4, .bool false, .bool false], .string r] w fun e w' => e = .returned (.int .i64 (a - 4294967296)) ∧ Below w.heap.size w w' := by
  have kh : ∀ w, Calls Tryz.prog 92 #[.int .i64 32] w fun e w' => e = .returned (.int .i64 2147483648) ∧ w' = w := fun w => half_spec 32 (by decide) (by decide) w
  go_enter Tryz.func104, Tryz.ntmps104
  go_wp2_with fail
  refine (kl _).mono ?_
  rintro e w2 ⟨rfl, rfl⟩
  go_wp2_with fail
  refine (kh _).mono ?_
  rintro e w3 ⟨rfl, rfl⟩
  go_wp2_with fail
  go_ret
  exact ⟨rfl, (Below.refl _ _).alloc (Nat.le_refl _) _⟩

set_option maxRecDepth 20000 in
set_option maxHeartbeats 1600000 in
theorem num_4falsefalsefalse (wd : Int) (h4 : 4 ≤ wd) (h32 : wd ≤ 32) (r : ByteArray) (a b : Int) (ha1 : 0 ≤ a) (ha2 : a < 4294967296) (hb1 : 0 ≤ b) (hb2 : b < 4294967296) (hx : ¬ 2147483648 ≤ a) 
    (kl : ∀ w, Calls Tryz.prog 125 #[.string r] w fun e w' => e = .returned (.int .i64 a) ∧ w' = w) (kb : ∀ w, Calls Tryz.prog 88 #[.string r] w fun e w' => e = .returned (.int .i64 b) ∧ w' = w) (w : World) :
    Calls Tryz.prog 104 #[.agg #[.int .i64 wd, .int .i64 4, .bool false, .bool false], .string r] w fun e w' => e = .returned (.int .i64 (a)) ∧ Below w.heap.size w w' := by
  have kh : ∀ w, Calls Tryz.prog 92 #[.int .i64 32] w fun e w' => e = .returned (.int .i64 2147483648) ∧ w' = w := fun w => half_spec 32 (by decide) (by decide) w
  go_enter Tryz.func104, Tryz.ntmps104
  go_wp2_with fail
  refine (kl _).mono ?_
  rintro e w2 ⟨rfl, rfl⟩
  go_wp2_with fail
  refine (kh _).mono ?_
  rintro e w3 ⟨rfl, rfl⟩
  go_wp2_with fail
  go_ret
  exact ⟨rfl, (Below.refl _ _).alloc (Nat.le_refl _) _⟩

def decM (wd : Int) (uns : Bool) (m : Nat) : Int := if uns then (m : Int) - 2 ^ (wd - 1).toNat else if 2 ^ (8 * nby wd - 1) ≤ (m : Int) then (m : Int) - 2 ^ (8 * nby wd) else m
/-- The number that a cell's bytes are, ahead of its sign. -/
def rawN (r : ByteArray) (big : Bool) : Nat := val (if big then bytesOf r else (bytesOf r).reverse)
theorem val_small (l : List Nat) (k : Nat) (hl : l.length = k) (h : ∀ b ∈ l, b < 256) : val l < 256 ^ k := by rw [← hl]; exact val_lt l h
theorem number_spec (wd : Int) (big uns : Bool) (r : ByteArray) (h4 : 4 ≤ wd) (h32 : wd ≤ 32) (hr : r.size = nby wd) (w : World) :
    Calls Tryz.prog 104 #[.agg (cellC wd big uns), .string r] w fun e w' => e = .returned (.int .i64 (decM wd uns (rawN r big))) ∧ Below w.heap.size w w' := by
  obtain ⟨k1, k4, _, _⟩ := nby_range wd h4 h32
  have hlb : (bytesOf r).length = nby wd := by rw [bytesOf_length, hr]
  have hb := val_small (bytesOf r) _ hlb (bytesOf_lt r)
  have ha := val_small (bytesOf r).reverse _ (by rw [List.length_reverse, hlb]) (fun x hx => bytesOf_lt r x (List.mem_reverse.1 hx))
  have hp8 : (256 : Nat) ^ nby wd ≤ 256 ^ 4 := Nat.pow_le_pow_right (by decide) k4
  have kl : ∀ w, Calls Tryz.prog 125 #[.string r] w fun e w' => e = .returned (.int .i64 (val (bytesOf r).reverse : Int)) ∧ w' = w := fun w => by
    have := fromLe_spec r (by omega) w
    rwa [fromBe_of _ (by rw [List.length_reverse, hlb]; omega) (by omega)] at this
  have kb : ∀ w, Calls Tryz.prog 88 #[.string r] w fun e w' => e = .returned (.int .i64 (val (bytesOf r) : Int)) ∧ w' = w := fun w => by
    have := fromBe_spec r (by omega) w
    rwa [fromBe_of _ (by omega) (by omega)] at this
  have hc : nby wd = 1 ∨ nby wd = 2 ∨ nby wd = 3 ∨ nby wd = 4 := by omega
  show Calls Tryz.prog 104 #[.agg #[.int .i64 wd, .int .i64 (nby wd : Int), .bool big, .bool uns], .string r] w _
  unfold decM rawN
  obtain ⟨a, hae⟩ : ∃ a, val (bytesOf r).reverse = a := ⟨_, rfl⟩
  obtain ⟨b, hbe⟩ : ∃ b, val (bytesOf r) = b := ⟨_, rfl⟩
  have hg : val (if big = true then bytesOf r else (bytesOf r).reverse) = (if big = true then b else a) := by
    cases big
    · exact hae
    · exact hbe
  rw [hg]
  rw [hae] at ha kl
  rw [hbe] at hb kb
  clear hlb hr hp8 hg hae hbe
  rcases hc with hk | hk | hk | hk
  · have hk' : (nby wd : Int) = 1 := by omega
    rw [hk']
    rw [hk] at ha hb
    rw [hk]
    have e1 : (256 : Nat) ^ 1 = 256 := by decide
    rw [e1] at ha hb
    have e2 : (2 : Int) ^ (8 * 1 - 1) = 128 := by decide
    have e3 : (2 : Int) ^ (8 * 1) = 256 := by decide
    rw [e2, e3]
    cases uns
    · cases big
      · show Calls _ _ _ _ fun e w' => e = .returned (.int .i64 (if 128 ≤ (a : Int) then (a : Int) - 256 else a)) ∧ _
        by_cases hx : 128 ≤ (a : Int)
        · rw [if_pos hx]
          exact num_1falsefalsetrue wd h4 h32 r a b (by omega) (by omega) (by omega) (by omega) hx kl kb w
        · rw [if_neg hx]
          exact num_1falsefalsefalse wd h4 h32 r a b (by omega) (by omega) (by omega) (by omega) hx kl kb w
      · show Calls _ _ _ _ fun e w' => e = .returned (.int .i64 (if 128 ≤ (b : Int) then (b : Int) - 256 else b)) ∧ _
        by_cases hx : 128 ≤ (b : Int)
        · rw [if_pos hx]
          exact num_1truefalsetrue wd h4 h32 r a b (by omega) (by omega) (by omega) (by omega) hx kl kb w
        · rw [if_neg hx]
          exact num_1truefalsefalse wd h4 h32 r a b (by omega) (by omega) (by omega) (by omega) hx kl kb w
    · cases big
      · exact num_1falsetruefalse wd h4 h32 r a b (by omega) (by omega) (by omega) (by omega) kl kb w
      · exact num_1truetruefalse wd h4 h32 r a b (by omega) (by omega) (by omega) (by omega) kl kb w
  · have hk' : (nby wd : Int) = 2 := by omega
    rw [hk']
    rw [hk] at ha hb
    rw [hk]
    have e1 : (256 : Nat) ^ 2 = 65536 := by decide
    rw [e1] at ha hb
    have e2 : (2 : Int) ^ (8 * 2 - 1) = 32768 := by decide
    have e3 : (2 : Int) ^ (8 * 2) = 65536 := by decide
    rw [e2, e3]
    cases uns
    · cases big
      · show Calls _ _ _ _ fun e w' => e = .returned (.int .i64 (if 32768 ≤ (a : Int) then (a : Int) - 65536 else a)) ∧ _
        by_cases hx : 32768 ≤ (a : Int)
        · rw [if_pos hx]
          exact num_2falsefalsetrue wd h4 h32 r a b (by omega) (by omega) (by omega) (by omega) hx kl kb w
        · rw [if_neg hx]
          exact num_2falsefalsefalse wd h4 h32 r a b (by omega) (by omega) (by omega) (by omega) hx kl kb w
      · show Calls _ _ _ _ fun e w' => e = .returned (.int .i64 (if 32768 ≤ (b : Int) then (b : Int) - 65536 else b)) ∧ _
        by_cases hx : 32768 ≤ (b : Int)
        · rw [if_pos hx]
          exact num_2truefalsetrue wd h4 h32 r a b (by omega) (by omega) (by omega) (by omega) hx kl kb w
        · rw [if_neg hx]
          exact num_2truefalsefalse wd h4 h32 r a b (by omega) (by omega) (by omega) (by omega) hx kl kb w
    · cases big
      · exact num_2falsetruefalse wd h4 h32 r a b (by omega) (by omega) (by omega) (by omega) kl kb w
      · exact num_2truetruefalse wd h4 h32 r a b (by omega) (by omega) (by omega) (by omega) kl kb w
  · have hk' : (nby wd : Int) = 3 := by omega
    rw [hk']
    rw [hk] at ha hb
    rw [hk]
    have e1 : (256 : Nat) ^ 3 = 16777216 := by decide
    rw [e1] at ha hb
    have e2 : (2 : Int) ^ (8 * 3 - 1) = 8388608 := by decide
    have e3 : (2 : Int) ^ (8 * 3) = 16777216 := by decide
    rw [e2, e3]
    cases uns
    · cases big
      · show Calls _ _ _ _ fun e w' => e = .returned (.int .i64 (if 8388608 ≤ (a : Int) then (a : Int) - 16777216 else a)) ∧ _
        by_cases hx : 8388608 ≤ (a : Int)
        · rw [if_pos hx]
          exact num_3falsefalsetrue wd h4 h32 r a b (by omega) (by omega) (by omega) (by omega) hx kl kb w
        · rw [if_neg hx]
          exact num_3falsefalsefalse wd h4 h32 r a b (by omega) (by omega) (by omega) (by omega) hx kl kb w
      · show Calls _ _ _ _ fun e w' => e = .returned (.int .i64 (if 8388608 ≤ (b : Int) then (b : Int) - 16777216 else b)) ∧ _
        by_cases hx : 8388608 ≤ (b : Int)
        · rw [if_pos hx]
          exact num_3truefalsetrue wd h4 h32 r a b (by omega) (by omega) (by omega) (by omega) hx kl kb w
        · rw [if_neg hx]
          exact num_3truefalsefalse wd h4 h32 r a b (by omega) (by omega) (by omega) (by omega) hx kl kb w
    · cases big
      · exact num_3falsetruefalse wd h4 h32 r a b (by omega) (by omega) (by omega) (by omega) kl kb w
      · exact num_3truetruefalse wd h4 h32 r a b (by omega) (by omega) (by omega) (by omega) kl kb w
  · have hk' : (nby wd : Int) = 4 := by omega
    rw [hk']
    rw [hk] at ha hb
    rw [hk]
    have e1 : (256 : Nat) ^ 4 = 4294967296 := by decide
    rw [e1] at ha hb
    have e2 : (2 : Int) ^ (8 * 4 - 1) = 2147483648 := by decide
    have e3 : (2 : Int) ^ (8 * 4) = 4294967296 := by decide
    rw [e2, e3]
    cases uns
    · cases big
      · show Calls _ _ _ _ fun e w' => e = .returned (.int .i64 (if 2147483648 ≤ (a : Int) then (a : Int) - 4294967296 else a)) ∧ _
        by_cases hx : 2147483648 ≤ (a : Int)
        · rw [if_pos hx]
          exact num_4falsefalsetrue wd h4 h32 r a b (by omega) (by omega) (by omega) (by omega) hx kl kb w
        · rw [if_neg hx]
          exact num_4falsefalsefalse wd h4 h32 r a b (by omega) (by omega) (by omega) (by omega) hx kl kb w
      · show Calls _ _ _ _ fun e w' => e = .returned (.int .i64 (if 2147483648 ≤ (b : Int) then (b : Int) - 4294967296 else b)) ∧ _
        by_cases hx : 2147483648 ≤ (b : Int)
        · rw [if_pos hx]
          exact num_4truefalsetrue wd h4 h32 r a b (by omega) (by omega) (by omega) (by omega) hx kl kb w
        · rw [if_neg hx]
          exact num_4truefalsefalse wd h4 h32 r a b (by omega) (by omega) (by omega) (by omega) hx kl kb w
    · cases big
      · exact num_4falsetruefalse wd h4 h32 r a b (by omega) (by omega) (by omega) (by omega) kl kb w
      · exact num_4truetruefalse wd h4 h32 r a b (by omega) (by omega) (by omega) (by omega) kl kb w

end Go.Proofs.YtaepgjheknkojaaGreat
