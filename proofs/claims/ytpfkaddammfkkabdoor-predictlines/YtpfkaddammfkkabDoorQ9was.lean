/- Own text: the program's gathered and Wasted; math/bits.TrailingZeros. -/
import Derived.Test.YtpfkaddammfkkabDoorP9mem
import Derived.Test.YtpfkaddammfkkabDoorP9or
import Derived.Laws.Bits64b
import Derived.Shelf.Spec.TrailingZeros
namespace Go.Proofs.YtpfkaddammfkkabDoor
open Go.RowKit
set_option linter.unusedSimpArgs false
set_option linter.unusedVariables false

/-- The table of math/bits in its variable. -/
def Tz (w : World) : Prop := TabAt 1 Go.Lib.deBruijn64tab w
theorem tab_len : Go.Lib.deBruijn64tab.length = 64 := by decide
theorem Tz.below {w w' : World} (h : Tz w) (hb : Below w.heap.size w w') : Tz w' := fun j hj => by
  rw [World.cell?_of_block (w := w) (hb.block 1 (lt_cell (h j hj)))]; exact h j hj
theorem u64_or (a : Nat) (x : Int) (ha : a < 18446744073709551616) : bits BinOp.or IntKind.u64 (a : Int) (x % 18446744073709551616) = ((a ||| (x % 18446744073709551616).toNat : Nat) : Int) := by
  have e : x % 18446744073709551616 = (((x % 18446744073709551616).toNat : Nat) : Int) := by omega
  conv => lhs; rw [e]
  exact bits_or_u64_nat a _ ha (u64_lt x)
set_option maxRecDepth 20000 in
set_option maxHeartbeats 3200000 in
theorem qgather_spec (l : List Int) (la : Option Addr) (lc : Nat) (w : World) (hl : IntsAt w la l) : Calls Tryd.prog 21 #[.slice la l.length lc] w fun e w' => e = .returned (.int .u64 (orN l l.length : Nat)) ∧ w' = w := by
  have h1 := hl.len
  have HL : Hid (IntsAt w la l) := hl
  clear hl
  go_enter Tryd.func21, Tryd.ntmps21
  go_wp2_with fail
  go_loopw [3, 5, 8] (fun s s5 t wr => ∃ k : Nat, k ≤ l.length ∧ t = .int .i64 (k : Int) ∧ s = .int .u64 (orN l k : Nat) ∧ wr = w) (fun _ _ t _ => l.length - (intOf t).toNat)
  case atStart => exact ⟨0, Nat.zero_le _, rfl, rfl, rfl⟩
  case round =>
    obtain ⟨k, hk, rfl, rfl, rfl⟩ := hrel
    by_cases hlt : k < l.length
    · obtain ⟨b1, o1, rfl, q1⟩ := HL.out.at k hlt
      have r1 := q1 wr (Below.refl _ _)
      have HN : Hid (orN l (k + 1) = orN l k ||| (l.getD k 0 % 18446744073709551616).toNat) := rfl
      have hu := u64_or (orN l k) (l.getD k 0) (orN_lt l k)
      rw [← HN.out] at hu
      clear q1
      generalize l.getD k 0 = x at *
      generalize orN l k = su at *
      go_wp2_with fail
      go_roundw
      case rel => exact ⟨k + 1, by omega, by go_num, by rw [IntKind.wrap_u64, hu], trivial⟩
      case measure => simp [intOf]; omega
    · have hke : k = l.length := by omega
      subst hke
      go_wp2_with fail
      go_ret
      exact ⟨rfl, rfl⟩
set_option maxRecDepth 20000 in
set_option maxHeartbeats 3200000 in
theorem tz64_core (x c ix : Nat) (w : World) (hx0 : ((x : Int) == 0) = false)
    (key : IntKind.u64.wrap (bits BinOp.and IntKind.u64 (x : Int) (IntKind.u64.wrap (-(x : Int))) * 285870213051353865) / 288230376151711744 = (ix : Int))
    (hi : ix < 64) (hk : c < 64) (hcell : w.cell? ⟨1, ix, none⟩ = some (.int .u8 (c : Int))) :
    Calls Tryd.prog 25 #[.int .u64 (x : Int)] w fun e w' => e = .returned (.int .i64 (c : Int)) ∧ w' = w := by
  go_enter Tryd.func25, Tryd.ntmps25
  go_wp2_with (simp only [key])
  go_ret
  exact ⟨rfl, rfl⟩
theorem tz64_spec (x : Nat) (hx0 : x ≠ 0) (hx : x < 18446744073709551616) (w : World) (hT : Tz w) : Calls Tryd.prog 25 #[.int .u64 (x : Int)] w fun e w' => e = .returned (.int .i64 (Go.Lib.ctz 64 x : Nat)) ∧ w' = w := by
  have e64 : (2 : Nat) ^ 64 = 18446744073709551616 := by decide
  have hq := Go.Lib.lowest_bit 64 x hx0 (by rw [e64]; exact hx)
  rw [e64] at hq
  have hd := Go.Lib.deBruijn64_at (Go.Lib.ctz 64 x) hq.2
  have hcell := hT _ (by rw [tab_len]; exact hd.1)
  rw [hd.2] at hcell
  exact tz64_core x (Go.Lib.ctz 64 x) _ w (by rw [beq_eq_false_iff_ne]; omega) (tz64_key x _ hx hx0 hq.1) hd.1 hq.2 hcell
set_option maxRecDepth 20000 in
set_option maxHeartbeats 3200000 in
theorem tz_spec (x : Nat) (hx0 : x ≠ 0) (hx : x < 18446744073709551616) (w : World) (hT : Tz w) : Calls Tryd.prog 22 #[.int .u64 (x : Int)] w fun e w' => e = .returned (.int .i64 (Go.Lib.ctz 64 x : Nat)) ∧ w' = w := by
  have kt := tz64_spec x hx0 hx w hT
  clear hT
  generalize Go.Lib.ctz 64 x = c at *
  go_enter Tryd.func22, Tryd.ntmps22
  go_wp2_with fail
  refine kt.mono ?_
  rintro e w2 ⟨rfl, hw2⟩
  subst hw2
  clear kt
  go_wp2_with fail
  go_ret
  exact ⟨rfl, rfl⟩
set_option maxRecDepth 20000 in
set_option maxHeartbeats 3200000 in
theorem qwasted_spec (l : List Int) (la : Option Addr) (lc : Nat) (w : World) (hT : Tz w) (hl : IntsAt w la l) : Calls Tryd.prog 15 #[.slice la l.length lc] w fun e w' => e = .returned (.int .i64 (wasN l : Int)) ∧ Below w.heap.size w w' := by
  have kg := qgather_spec l la lc w hl
  have hr : Rng l := hl.num
  by_cases h0 : orN l l.length = 0
  · have HW : Hid (wasN l = 0) := was_zero l hr h0
    rw [h0] at kg
    clear h0 hr hl
    go_enter Tryd.func15, Tryd.ntmps15
    go_wp2_with fail
    refine kg.mono ?_
    rintro e w2 ⟨rfl, hw2⟩
    subst hw2
    clear kg
    go_wp2_with fail
    go_ret
    exact ⟨by rw [HW.out]; rfl, Below.refl _ _⟩
  · have HW : Hid (wasN l = min (Go.Lib.ctz 64 (orN l l.length)) 31) := was_ctz l hr h0
    have kt := tz_spec _ h0 (orN_lt l l.length) w hT
    have hb0 : ((orN l l.length : Int) == 0) = false := by rw [beq_eq_false_iff_ne]; omega
    clear h0 hr hl hT
    generalize Go.Lib.ctz 64 (orN l l.length) = c at *
    generalize orN l l.length = a at *
    go_enter Tryd.func15, Tryd.ntmps15
    go_wp2_with fail
    refine kg.mono ?_
    rintro e w2 ⟨rfl, hw2⟩
    subst hw2
    clear kg
    go_wp2_with fail
    refine kt.mono ?_
    rintro e w3 ⟨rfl, hw3⟩
    subst hw3
    clear kt
    by_cases hc : c ≤ 31
    · have HW2 : Hid (wasN l = c) := by show _ = _; rw [HW.out]; omega
      clear HW
      have hci : (c : Int) ≤ 31 := by omega
      go_wp2_with fail
      go_ret
      exact ⟨by rw [HW2.out]; rfl, Below.refl _ _⟩
    · have HW2 : Hid (wasN l = 31) := by show _ = _; rw [HW.out]; omega
      clear HW
      have hci : 31 < (c : Int) := by omega
      go_wp2_with fail
      go_ret
      exact ⟨by rw [HW2.out]; rfl, Below.refl _ _⟩

end Go.Proofs.YtpfkaddammfkkabDoor
