/- Own text: the walks of the document's Rice, and of both readers' Align. -/
import Derived.Test.YtkikoamaceajcaaRrice
namespace Go.Proofs.Ytkikoamaceajcaa
open Go.RowKit
set_option linter.unusedSimpArgs false
set_option linter.unusedVariables false

theorem refrice_width (x : Nat) (k : Int) (hk : k < 0 ∨ 30 < k) (w : World) : Calls Try.prog 23 #[.pointer (some ⟨x, 0, none⟩), .int .i64 k] w fun e w' => e = .returned (.tuple #[.int .i64 0, .int .i64 11]) ∧ w' = w := by
  rcases hk with hk | hk
  · go_enter Try.func23, Try.ntmps23
    go_wp2
    go_ret2
    exact ⟨rfl, rfl⟩
  · go_enter Try.func23, Try.ntmps23
    go_wp2
    go_ret2
    exact ⟨rfl, rfl⟩

theorem refrice_uerr (x : Nat) (s : ByteArray) (hs : s.size ≤ 1000000000000000000) (at_ : Nat) (ha : at_ ≤ 8 * s.size) (k : Nat) (hk : k ≤ 30) (hl : 16777216 < lead (ahead s at_)) (w : World) (h : Rr w x s at_) :
    Calls Try.prog 23 #[.pointer (some ⟨x, 0, none⟩), .int .i64 (k : Int)] w fun e w' => e = .returned (.tuple #[.int .i64 0, .int .i64 11]) ∧ w' = w := by
  have c1 := h.c1
  go_enter Try.func23, Try.ntmps23
  go_wp2_with fail
  refine (refunary_spec x s hs at_ ha w h).mono ?_
  rintro e w2 (⟨_, rfl, rfl⟩ | ⟨q1, _⟩ | ⟨q1, _⟩)
  · go_wp2
    go_ret2
    exact ⟨rfl, rfl⟩
  · exact absurd hl (by omega)
  · exact absurd hl (by omega)

theorem refrice_uend (x : Nat) (s : ByteArray) (hs : s.size ≤ 1000000000000000000) (at_ : Nat) (ha : at_ ≤ 8 * s.size) (k : Nat) (hk : k ≤ 30) (hl : lead (ahead s at_) ≤ 16777216) (he : lead (ahead s at_) = 8 * s.size - at_) (w : World) (h : Rr w x s at_) :
    Calls Try.prog 23 #[.pointer (some ⟨x, 0, none⟩), .int .i64 (k : Int)] w fun e w' => e = .returned (.tuple #[.int .i64 0, .int .i64 10]) ∧ w' = w := by
  have HL : Hid _ := hl
  have HE : Hid _ := he
  clear hl he
  have c1 := h.c1
  go_enter Try.func23, Try.ntmps23
  go_wp2_with fail
  refine (refunary_spec x s hs at_ ha w h).mono ?_
  rintro e w2 (⟨q1, _⟩ | ⟨_, _, rfl, rfl⟩ | ⟨_, q1, _⟩)
  · exact absurd q1 (by have := HL.out; omega)
  · go_wp2
    go_ret2
    exact ⟨rfl, rfl⟩
  · exact absurd q1 (by have := HE.out; omega)

theorem refrice_gend (x : Nat) (s : ByteArray) (hs : s.size ≤ 1000000000000000000) (at_ : Nat) (ha : at_ ≤ 8 * s.size) (k : Nat) (hk : k ≤ 30) (z : Nat) (hz : lead (ahead s at_) = z) (hl : z ≤ 16777216) (hzr : z < 8 * s.size - at_) (he : 8 * s.size < at_ + z + 1 + k) (w : World) (h : Rr w x s at_) :
    Calls Try.prog 23 #[.pointer (some ⟨x, 0, none⟩), .int .i64 (k : Int)] w fun e w' => e = .returned (.tuple #[.int .i64 0, .int .i64 10]) ∧ Rr w' x s at_ ∧ Stays (only x) w w' := by
  have HZ : Hid _ := hz
  clear hz
  have c1 := h.c1
  go_enter Try.func23, Try.ntmps23
  go_wp2_with fail
  refine (refunary_spec x s hs at_ ha w h).mono ?_
  rintro e w2 (⟨q1, _⟩ | ⟨_, q1, _⟩ | ⟨_, _, rfl, hR2, hS2⟩)
  · exact absurd q1 (by have := HZ.out; omega)
  · exact absurd q1 (by have := HZ.out; omega)
  · rw [HZ.out] at hR2 ⊢
    have d1 := hR2.c1
    have g1 := hR2.f 1
    clear c1
    go_wp2_with fail
    refine (refget_end x s hs (at_ + z + 1) (by omega) k (by omega) he _ hR2).mono ?_
    rintro e w3 ⟨rfl, n1, rfl⟩
    go_wp2
    go_ret2
    exact ⟨rfl, (hR2.drewN n1).set at_, (hS2.drewN _).setCell ⟨x, 1, none⟩ _ (.inl rfl)⟩

theorem plus_low (z low k : Nat) (hz : z ≤ 16777216) (hk : k ≤ 30) (hl : low < 2 ^ k) :
    IntKind.u64.wrap (IntKind.u64.wrap ((z : Int) * 2 ^ k) + (low : Int)) = ((z * 2 ^ k + low : Nat) : Int) := by
  have h30 : (2 : Nat) ^ k ≤ 2 ^ 30 := pow_le_of k 30 hk
  have hm : z * 2 ^ k ≤ 16777216 * 2 ^ 30 := Nat.mul_le_mul hz h30
  have e1 : (z : Int) * 2 ^ k = ((z * 2 ^ k : Nat) : Int) := by simp
  rw [IntKind.wrap_u64, IntKind.wrap_u64, e1]
  omega

theorem refrice_ok (x : Nat) (s : ByteArray) (hs : s.size ≤ 1000000000000000000) (at_ : Nat) (ha : at_ ≤ 8 * s.size) (k : Nat) (hk : k ≤ 30) (z : Nat) (hz : lead (ahead s at_) = z) (hl : z ≤ 16777216) (he : at_ + z + 1 + k ≤ 8 * s.size) (w : World) (h : Rr w x s at_) :
    Calls Try.prog 23 #[.pointer (some ⟨x, 0, none⟩), .int .i64 (k : Int)] w fun e w' => e = .returned (.tuple #[.int .i64 (unfoldN (z * 2 ^ k + bitsAt s (at_ + z + 1) k)), .int .i64 0]) ∧ Rr w' x s (at_ + z + 1 + k) ∧ Stays (only x) w w' := by
  have HZ : Hid _ := hz
  clear hz
  have c1 := h.c1
  go_enter Try.func23, Try.ntmps23
  go_wp2_with fail
  refine (refunary_spec x s hs at_ ha w h).mono ?_
  rintro e w2 (⟨q1, _⟩ | ⟨_, q1, _⟩ | ⟨_, _, rfl, hR2, hS2⟩)
  · exact absurd q1 (by have := HZ.out; omega)
  · exact absurd q1 (by have := HZ.out; omega)
  · rw [HZ.out] at hR2 ⊢
    clear c1
    go_wp2_with fail
    refine (refget_ok x s hs (at_ + z + 1) k (by omega) he _ hR2).mono ?_
    rintro e w3 ⟨rfl, hR3, hS3⟩
    have HP : Hid _ := plus_low z (bitsAt s (at_ + z + 1) k) k hl hk (bitsAt_lt s _ k)
    have HO : Hid _ := or_low z (bitsAt s (at_ + z + 1) k) k hl hk (bitsAt_lt s _ k)
    go_wp2_with fail
    rw [HP.out]
    refine (refunfold_spec _ HO.out.2 _).mono ?_
    rintro e w4 ⟨rfl, rfl⟩
    go_wp2
    go_ret2
    exact ⟨rfl, hR3, hS2.trans hS3 (fun _ _ h => h)⟩

/-- How many bits there are to a whole byte. -/
def padOf (at_ : Nat) : Nat := (8 - at_ % 8) % 8

theorem ralign_spec (q : Nat) (s : ByteArray) (hs : s.size ≤ 1000000000000000000) (at_ : Nat) (ha : at_ ≤ 8 * s.size) (w : World) (h : Rd w q s at_) :
    Calls Try.prog 24 #[.pointer (some ⟨q, 0, none⟩)] w fun e w' => e = .returned (.tuple #[.bool ((bitsAt s at_ (padOf at_) : Int) == 0), .int .i64 0]) ∧ Rd w' q s (at_ + padOf at_) ∧ Stays (only q) w w' := by
  have hand : bits BinOp.and IntKind.i64 (-(at_ : Int)) 7 = (padOf at_ : Int) := by rw [i64_and7]; unfold padOf; omega
  have hp : at_ + padOf at_ ≤ 8 * s.size ∧ padOf at_ ≤ 64 := by unfold padOf; omega
  go_enter Try.func24, Try.ntmps24
  go_wp2_with (first | (go_at_call 47; refine (passed_spec q s at_ _ h).mono ?_; rintro e w' ⟨rfl, rfl⟩) | (go_at_call 41; refine (take_spec q s hs at_ (padOf at_) hp.1 hp.2 _ h).mono ?_; rintro e w2 ⟨rfl, hR2, hS2⟩))
  go_ret2
  exact ⟨rfl, hR2, hS2⟩

/-- Where the document's reader stands. -/
def atOf (w : World) (x : Nat) : Nat := match w.cell? ⟨x, 1, none⟩ with
  | some (.int _ n) => n.toNat
  | _ => 0

theorem atOf_eq {w : World} {x : Nat} {s : ByteArray} {a : Nat} (h : Rr w x s a) : atOf w x = a := by
  unfold atOf
  rw [h.c1]
  simp

set_option maxHeartbeats 800000 in
theorem refalign_spec (x : Nat) (s : ByteArray) (hs : s.size ≤ 1000000000000000000) (at_ : Nat) (ha : at_ ≤ 8 * s.size) (w : World) (h : Rr w x s at_) :
    Calls Try.prog 25 #[.pointer (some ⟨x, 0, none⟩)] w fun e w' => e = .returned (.bool ((bitsAt s at_ (padOf at_) : Int) == 0)) ∧ Rr w' x s (at_ + padOf at_) ∧ Stays (only x) w w' := by
  go_enter Try.func25, Try.ntmps25
  go_wp2
  go_loopw [3] (fun t wr => ∃ j : Nat, j ≤ padOf at_ ∧ t = .bool ((bitsAt s at_ j : Int) == 0) ∧ Rr wr x s (at_ + j) ∧ Stays (only x) w wr) (fun _ wr => 8 * s.size + 8 - atOf wr x)
  case atStart => exact ⟨0, Nat.zero_le _, by rw [bitsAt_zero]; rfl, h, Stays.refl _ _⟩
  case round =>
    obtain ⟨j, hj, rfl, hR, hS⟩ := hrel
    obtain ⟨a, hadef⟩ : ∃ a, a = at_ + j := ⟨_, rfl⟩
    rw [← hadef] at hR
    have c1 := hR.c1
    have f1 := hR.f 1
    have HA : Hid _ := hadef
    have hpj : j < padOf at_ ∧ a % 8 ≠ 0 ∧ a < 8 * s.size ∨ j = padOf at_ ∧ a % 8 = 0 := by unfold padOf at hj ⊢; omega
    have HJ : Hid _ := hj
    clear hadef hj
    rcases hpj with ⟨hp1, hp2, hp3⟩ | ⟨hp1, hp2⟩
    · have hm : ((a : Int) % 8 != 0) = true := by simp; omega
      have hadd : bitsAt s at_ (j + 1) = bitsAt s at_ j * 2 ^ 1 + bitsAt s a 1 := by rw [HA.out]; exact bitsAt_add s at_ j 1 (by have := HA.out; omega)
      have HD : Hid _ := hadd
      have HP1 : Hid _ := hp1
      clear hadd hp1 hp2
      by_cases h0 : bitsAt s at_ j = 0
      · rw [h0]
        have e0 : (((0 : Nat) : Int) == 0) = true := rfl
        rw [e0]
        have H0 : Hid _ := h0
        clear h0 e0
        go_wp2_with fail
        refine (bit_spec x s hs a a hp3 _ hR).mono ?_
        rintro e w2 ⟨rfl, rfl⟩
        go_wp2
        go_roundw
        case rel =>
          refine ⟨j + 1, HP1.out, ?_, ?_, hS.setCell ⟨x, 1, none⟩ _ (.inl rfl)⟩
          · rw [HD.out, H0.out]
            simp
          · have := hR.set (a + 1)
            rw [← Nat.add_assoc, ← HA.out]
            simpa using this
        case measure =>
          have e1 := hR.set (a + 1)
          have e2 : (((a + 1 : Nat) : Int)) = (a : Int) + 1 := by omega
          rw [e2] at e1
          rw [atOf_eq e1, atOf_eq hR]
          omega
      · have e0 : ((bitsAt s at_ j : Int) == 0) = false := by simp; omega
        have H0 : Hid (¬ bitsAt s at_ j = 0) := h0
        clear h0
        rw [e0]
        go_wp2
        go_roundw
        case rel =>
          refine ⟨j + 1, HP1.out, ?_, ?_, hS.setCell ⟨x, 1, none⟩ _ (.inl rfl)⟩
          · have h1 : ((bitsAt s at_ (j + 1) : Int) == 0) = false := by
              rw [HD.out]
              have := H0.out
              simp
              omega
            rw [h1]
          · have := hR.set (a + 1)
            rw [← Nat.add_assoc, ← HA.out]
            simpa using this
        case measure =>
          have e1 := hR.set (a + 1)
          have e2 : (((a + 1 : Nat) : Int)) = (a : Int) + 1 := by omega
          rw [e2] at e1
          rw [atOf_eq e1, atOf_eq hR]
          omega
    · have hm : ((a : Int) % 8 != 0) = false := by simp; omega
      have HP1 : Hid _ := hp1
      clear hp1 hp2
      go_wp2
      go_ret
      have e1 := HP1.out
      subst e1
      exact ⟨rfl, by rw [← HA.out]; exact hR, hS⟩
end Go.Proofs.Ytkikoamaceajcaa
