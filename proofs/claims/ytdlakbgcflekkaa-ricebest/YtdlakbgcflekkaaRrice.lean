/- Own text: the walks of both readers' Rice and Align. -/
import Derived.Test.YtdlakbgcflekkaaSigns
import Derived.Test.YtdlakbgcflekkaaAwake
namespace Go.Proofs.Ytdlakbgcflekkaa
open Go.RowKit
set_option linter.unusedSimpArgs false
set_option linter.unusedVariables false


theorem or_low (z low k : Nat) (hz : z ≤ 16777216) (hk : k ≤ 30) (hl : low < 2 ^ k) :
    bits BinOp.or IntKind.u64 (IntKind.u64.wrap ((z : Int) * 2 ^ k)) (low : Int) = ((z * 2 ^ k + low : Nat) : Int) ∧ z * 2 ^ k + low < 18446744073709551616 := by
  have h30 : (2 : Nat) ^ k ≤ 2 ^ 30 := pow_le_of k 30 hk
  have hm : z * 2 ^ k ≤ 16777216 * 2 ^ 30 := Nat.mul_le_mul hz h30
  have e : IntKind.u64.wrap ((z : Int) * 2 ^ k) = ((z * 2 ^ k : Nat) : Int) := by
    have e1 : (z : Int) * 2 ^ k = ((z * 2 ^ k : Nat) : Int) := by simp
    rw [IntKind.wrap_u64, e1]
    omega
  exact ⟨by rw [e, u64_or_nat _ _ (by omega) (by omega), nat_join k _ _ (by simp) hl], by omega⟩

theorem rrice_width (q : Nat) (k : Int) (hk : k < 0 ∨ 30 < k) (w : World) : Calls Try.prog 75 #[.pointer (some ⟨q, 0, none⟩), .int .i64 k] w fun e w' => e = .returned (.tuple #[.int .i64 0, .int .i64 11]) ∧ w' = w := by
  rcases hk with hk | hk
  · go_enter Try.func75, Try.ntmps75
    go_wp2
    go_ret2
    exact ⟨rfl, rfl⟩
  · go_enter Try.func75, Try.ntmps75
    go_wp2
    go_ret2
    exact ⟨rfl, rfl⟩

theorem below_only {q : Nat} {w w' : World} (h : Below w.heap.size w w') : Stays (only q) w w' := Stays.of_below h _

set_option maxHeartbeats 800000 in
theorem rrice_uerr (q : Nat) (s : ByteArray) (hs : s.size ≤ 1000000000000000000) (at_ : Nat) (ha : at_ ≤ 8 * s.size) (k : Nat) (hk : k ≤ 30) (hl : 16777216 < lead (ahead s at_)) (w : World) (h : Rd w q s at_) :
    Calls Try.prog 75 #[.pointer (some ⟨q, 0, none⟩), .int .i64 (k : Int)] w fun e w' => e = .returned (.tuple #[.int .i64 0, .int .i64 11]) ∧ Rd w' q s at_ ∧ Stays (only q) w w' := by
  have c0 := h.c0
  have c1 := h.c1
  go_enter Try.func75, Try.ntmps75
  go_wp2_with fail
  have hB1 : Below w.heap.size w (w.alloc (.cells #[.int .i64 (at_ : Int), .int .i64 (8 * (s.size : Int))] 79)) := (Below.refl _ _).alloc (Nat.le_refl _) _
  have hR1 : Rd (w.alloc (.cells #[.int .i64 (at_ : Int), .int .i64 (8 * (s.size : Int))] 79)) q s at_ := h.below hB1
  refine (runary_width q s hs at_ ha hl _ hR1).mono ?_
  rintro e w2 ⟨rfl, n1, rfl⟩
  go_wp2
  go_ret2
  exact ⟨rfl, hR1, (below_only hB1).drewN _⟩

set_option maxHeartbeats 800000 in
theorem rrice_uend (q : Nat) (s : ByteArray) (hs : s.size ≤ 1000000000000000000) (at_ : Nat) (ha : at_ ≤ 8 * s.size) (k : Nat) (hk : k ≤ 30) (hl : lead (ahead s at_) ≤ 16777216) (he : lead (ahead s at_) = 8 * s.size - at_) (w : World) (h : Rd w q s at_) :
    Calls Try.prog 75 #[.pointer (some ⟨q, 0, none⟩), .int .i64 (k : Int)] w fun e w' => e = .returned (.tuple #[.int .i64 0, .int .i64 10]) ∧ Rd w' q s at_ ∧ Stays (only q) w w' := by
  have HL : Hid _ := hl
  have HE : Hid _ := he
  clear hl he
  have c0 := h.c0
  have c1 := h.c1
  go_enter Try.func75, Try.ntmps75
  go_wp2_with fail
  have hB1 : Below w.heap.size w (w.alloc (.cells #[.int .i64 (at_ : Int), .int .i64 (8 * (s.size : Int))] 79)) := (Below.refl _ _).alloc (Nat.le_refl _) _
  have hR1 : Rd (w.alloc (.cells #[.int .i64 (at_ : Int), .int .i64 (8 * (s.size : Int))] 79)) q s at_ := h.below hB1
  refine (runary_end q s hs at_ ha HL.out HE.out _ hR1).mono ?_
  rintro e w2 ⟨rfl, n1, rfl⟩
  go_wp2
  go_ret2
  exact ⟨rfl, hR1, (below_only hB1).drewN _⟩

set_option maxHeartbeats 800000 in
theorem rrice_gend (q : Nat) (s : ByteArray) (hs : s.size ≤ 1000000000000000000) (at_ : Nat) (ha : at_ ≤ 8 * s.size) (k : Nat) (hk : k ≤ 30) (z : Nat) (hz : lead (ahead s at_) = z) (hl : z ≤ 16777216) (hzr : z < 8 * s.size - at_) (he : 8 * s.size < at_ + z + 1 + k) (w : World) (h : Rd w q s at_) :
    Calls Try.prog 75 #[.pointer (some ⟨q, 0, none⟩), .int .i64 (k : Int)] w fun e w' => e = .returned (.tuple #[.int .i64 0, .int .i64 10]) ∧ Rd w' q s at_ ∧ Stays (only q) w w' := by
  have HZ : Hid _ := hz
  clear hz
  have c0 := h.c0
  have c1 := h.c1
  go_enter Try.func75, Try.ntmps75
  go_wp2_with fail
  have hB1 : Below w.heap.size w (w.alloc (.cells #[.int .i64 (at_ : Int), .int .i64 (8 * (s.size : Int))] 79)) := (Below.refl _ _).alloc (Nat.le_refl _) _
  have hR1 : Rd (w.alloc (.cells #[.int .i64 (at_ : Int), .int .i64 (8 * (s.size : Int))] 79)) q s at_ := h.below hB1
  refine (runary_ok q s hs at_ ha z HZ.out hl hzr _ hR1).mono ?_
  rintro e w2 ⟨rfl, hR2, hS2⟩
  have hq := h.lt
  have a0 : w2.cell? ⟨w.heap.size, 0, none⟩ = some (.int .i64 (at_ : Int)) := by
    rw [World.cell?_of_block (w := w.alloc (.cells #[.int .i64 (at_ : Int), .int .i64 (8 * (s.size : Int))] 79)) (hS2.block w.heap.size (by simp) (fun e => by have : w.heap.size = q := e; omega))]
    simp only [World.cell?, heap_alloc_new]
    rfl
  have a1 : w2.cell? ⟨w.heap.size, 1, none⟩ = some (.int .i64 (8 * (s.size : Int))) := by
    rw [World.cell?_of_block (w := w.alloc (.cells #[.int .i64 (at_ : Int), .int .i64 (8 * (s.size : Int))] 79)) (hS2.block w.heap.size (by simp) (fun e => by have : w.heap.size = q := e; omega))]
    simp only [World.cell?, heap_alloc_new]
    rfl
  have d0 := hR2.c0
  have d1 := hR2.c1
  have g0 := hR2.f 0
  have g1 := hR2.f 1
  have HS : Hid (Stays (only q) w w2) := (below_only hB1).trans hS2 (fun _ _ h => h)
  clear hB1 hR1 hS2 c0 c1
  go_wp2_with fail
  refine (get_end q s hs (at_ + z + 1) (by omega) k (by omega) he _ hR2).mono ?_
  rintro e w3 ⟨rfl, n1, rfl⟩
  go_wp2
  go_ret2
  refine ⟨rfl, ?_, (((HS.out).drewN _).setCell ⟨q, 0, none⟩ _ (.inl rfl)).setCell ⟨q, 1, none⟩ _ (.inl rfl)⟩
  have hx := (hR2.drewN n1).set at_
  unfold Rd at hx ⊢
  rw [block_setCell _ q 1 _ _ _ hx]
  rfl

set_option maxHeartbeats 800000 in
theorem rrice_ok (q : Nat) (s : ByteArray) (hs : s.size ≤ 1000000000000000000) (at_ : Nat) (ha : at_ ≤ 8 * s.size) (k : Nat) (hk : k ≤ 30) (z : Nat) (hz : lead (ahead s at_) = z) (hl : z ≤ 16777216) (he : at_ + z + 1 + k ≤ 8 * s.size) (w : World) (h : Rd w q s at_) :
    Calls Try.prog 75 #[.pointer (some ⟨q, 0, none⟩), .int .i64 (k : Int)] w fun e w' => e = .returned (.tuple #[.int .i64 (unfoldN (z * 2 ^ k + bitsAt s (at_ + z + 1) k)), .int .i64 0]) ∧ Rd w' q s (at_ + z + 1 + k) ∧ Stays (only q) w w' := by
  have HZ : Hid _ := hz
  clear hz
  have c0 := h.c0
  have c1 := h.c1
  go_enter Try.func75, Try.ntmps75
  go_wp2_with fail
  have hB1 : Below w.heap.size w (w.alloc (.cells #[.int .i64 (at_ : Int), .int .i64 (8 * (s.size : Int))] 79)) := (Below.refl _ _).alloc (Nat.le_refl _) _
  have hR1 : Rd (w.alloc (.cells #[.int .i64 (at_ : Int), .int .i64 (8 * (s.size : Int))] 79)) q s at_ := h.below hB1
  refine (runary_ok q s hs at_ ha z HZ.out hl (by omega) _ hR1).mono ?_
  rintro e w2 ⟨rfl, hR2, hS2⟩
  have HS : Hid (Stays (only q) w w2) := (below_only hB1).trans hS2 (fun _ _ h => h)
  clear hB1 hR1 hS2 c0 c1
  go_wp2_with fail
  refine (get_ok q s hs (at_ + z + 1) k (by omega) he _ hR2).mono ?_
  rintro e w3 ⟨rfl, hR3, hS3⟩
  have HO : Hid _ := or_low z (bitsAt s (at_ + z + 1) k) k hl hk (bitsAt_lt s _ k)
  go_wp2_with fail
  rw [HO.out.1]
  refine (unfolded_spec _ HO.out.2 _).mono ?_
  rintro e w4 ⟨rfl, rfl⟩
  go_wp2
  go_ret2
  exact ⟨rfl, hR3, HS.out.trans hS3 (fun _ _ h => h)⟩
end Go.Proofs.Ytdlakbgcflekkaa
