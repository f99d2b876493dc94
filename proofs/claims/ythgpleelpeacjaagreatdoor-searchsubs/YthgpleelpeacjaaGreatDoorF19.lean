/- Own text. -/
import Derived.Lib.TrailingZeros
import Derived.Laws.Bits64b
import Derived.Shelf.Spec.TrailingZeros
import Derived.Test.YthgpleelpeacjaaGreatDoorF18
set_option linter.unusedSimpArgs false
set_option linter.unusedVariables false
set_option maxRecDepth 20000
set_option maxHeartbeats 12800000
namespace Go.Proofs.YthgpleelpeacjaaGreatDoor
open Go.RowKit
def orN (l : List Int) : Nat → Nat
 | 0 => 0
 | n + 1 => orN l n ||| (l.getD n 0 % 18446744073709551616).toNat
theorem u64_lt (x : Int) : (x % 18446744073709551616).toNat < 18446744073709551616 := by omega
theorem orN_lt (l : List Int) (n : Nat) : orN l n < 18446744073709551616 := by
 induction n with
 | zero => show 0 < 18446744073709551616; decide
 | succ n ih => exact Nat.or_lt_two_pow (n := 64) ih (u64_lt _)
theorem u64_dv (x : Int) (k : Nat) (hk : k ≤ 64) : (x % 18446744073709551616).toNat % 2 ^ k = 0 ↔ x % ((2 ^ k : Nat) : Int) = 0 := by
 have hd : ((2 ^ k : Nat) : Int) ∣ ((2 ^ 64 : Nat) : Int) := Int.natCast_dvd_natCast.2 (Nat.pow_dvd_pow 2 hk)
 have e : (((x % 18446744073709551616).toNat % 2 ^ k : Nat) : Int) = x % ((2 ^ k : Nat) : Int) := by
  rw [Int.natCast_emod, Int.toNat_of_nonneg (Int.emod_nonneg _ (by decide))]
  exact Int.emod_emod_of_dvd x hd
 rw [← e]
 exact Int.natCast_eq_zero.symm
theorem orN_dv (l : List Int) (k : Nat) (hk : k ≤ 64) (n : Nat) : orN l n % 2 ^ k = 0 ↔ ∀ j, j < n → l.getD j 0 % ((2 ^ k : Nat) : Int) = 0 := by
 induction n with
 | zero => exact ⟨fun _ j hj => absurd hj (Nat.not_lt_zero _), fun _ => Nat.zero_mod _⟩
 | succ n ih =>
  unfold orN
  rw [Nat.or_mod_two_pow, Nat.or_eq_zero_iff, ih, u64_dv _ k hk]
  constructor
  ·intro h j hj
   by_cases e : j = n
   ·rw [e]; exact h.2
   ·exact h.1 j (by omega)
  ·intro h
   exact ⟨fun j hj => h j (by omega), h n (by omega)⟩
theorem dvB_or (l : List Int) (k : Nat) (hk : k ≤ 64) : dvB l k = true ↔ orN l l.length % 2 ^ k = 0 := by
 rw [dvB_iff, orN_dv l k hk]
 have e : ((2 ^ k : Nat) : Int) = (2 : Int) ^ k := by simp
 rw [e]
 constructor
 ·intro h j hj
  refine h _ ?_
  rw [List.getD_eq_getElem?_getD, List.getElem?_eq_getElem hj]; exact List.getElem_mem hj
 ·intro h n hn
  obtain ⟨j, hj, rfl⟩ := List.getElem_of_mem hn
  have := h j hj
  rw [List.getD_eq_getElem?_getD, List.getElem?_eq_getElem hj] at this
  exact this
theorem or_zero (l : List Int) (hr : Rng l) : orN l l.length = 0 ↔ zerB l = true := by
 have h64 := dvB_or l 64 (Nat.le_refl _)
 have hlt := orN_lt l l.length
 have e64 : (2 : Nat) ^ 64 = 18446744073709551616 := by decide
 rw [e64, Nat.mod_eq_of_lt hlt, dvB_iff] at h64
 rw [← h64]
 unfold zerB
 rw [List.all_eq_true]
 have ei : (2 : Int) ^ 64 = 18446744073709551616 := by decide
 constructor
 ·intro h n hn
  have h1 := h n hn
  have h2 := hr n hn
  rw [ei] at h1
  have : n = 0 := by omega
  simp [this]
 ·intro h n hn
  have h1 : n = 0 := by simpa using h n hn
  rw [h1]; exact Int.zero_emod _
theorem was_zero (l : List Int) (hr : Rng l) (h : orN l l.length = 0) : wasN l = 0 := by
 unfold wasN; rw [if_pos ((or_zero l hr).1 h)]
theorem was_ctz (l : List Int) (hr : Rng l) (h : orN l l.length ≠ 0) : wasN l = min (Go.Lib.ctz 64 (orN l l.length)) 31 := by
 unfold wasN
 rw [if_neg (fun hz => h ((or_zero l hr).2 hz))]
 have hlt := orN_lt l l.length
 obtain ⟨m, hm, hk⟩ := Go.Lib.ctzFrom_spec 64 (orN l l.length) (by omega) hlt
 have hc : Go.Lib.ctz 64 (orN l l.length) = Go.Lib.ctzFrom 64 (orN l l.length) := by unfold Go.Lib.ctz; rw [if_neg h]
 rw [hc]
 have D := fun k hk => dvB_or l k hk
 generalize Go.Lib.ctzFrom 64 (orN l l.length) = c at *
 refine wasK_is l _ 31 (Nat.min_le_right _ _) ?_ ?_
 ·rw [D _ (by omega), hm]
  refine Nat.mod_eq_zero_of_dvd (Nat.dvd_trans (Nat.pow_dvd_pow 2 (Nat.min_le_left c 31)) (Nat.dvd_mul_right _ _))
 ·by_cases h31 : 31 ≤ c
  ·exact Or.inl (by omega)
  ·refine Or.inr ?_
   have e : min c 31 = c := by omega
   rw [e]
   cases hb : dvB l (c + 1) with
   | false => rfl
   | true =>
    rw [D _ (by omega), hm, Nat.pow_succ] at hb
    have h2 : 2 ^ c * (2 * m + 1) % (2 ^ c * 2) = 2 ^ c * ((2 * m + 1) % 2) := Nat.mul_mod_mul_left _ _ _
    rw [h2] at hb
    have h3 : 0 < 2 ^ c := Nat.two_pow_pos c
    have h4 : (2 * m + 1) % 2 = 1 := by omega
    rw [h4, Nat.mul_one] at hb
    omega
def Tz (w : World) : Prop := TabAt 4 Go.Lib.deBruijn64tab w
theorem tab_len : Go.Lib.deBruijn64tab.length = 64 := by decide
theorem Tz.below {w w' : World} (h : Tz w) (hb : Below w.heap.size w w') : Tz w' := fun j hj => by
 rw [World.cell?_of_block (w := w) (hb.block 4 (lt_cell (h j hj)))]; exact h j hj
theorem u64_or (a : Nat) (x : Int) (ha : a < 18446744073709551616) : bits BinOp.or IntKind.u64 (a : Int) (x % 18446744073709551616) = ((a ||| (x % 18446744073709551616).toNat : Nat) : Int) := by
 have e : x % 18446744073709551616 = (((x % 18446744073709551616).toNat : Nat) : Int) := by omega
 conv => lhs; rw [e]
 exact bits_or_u64_nat a _ ha (u64_lt x)
theorem qgather_spec (l : List Int) (la : Option Addr) (lc : Nat) (w : World) (hl : IntsAt w la l) : Calls Tryz.prog 137 #[.slice la l.length lc] w fun e w' => e = .returned (.int .u64 (orN l l.length : Nat)) ∧ w' = w := by
 have h1 := hl.len
 have HL : Hid (IntsAt w la l) := hl
 clear hl
 go_enter Tryz.func137, Tryz.ntmps137
 go_wp2_with fail
 go_loopw [3, 5, 8] (fun s s5 t wr => ∃ k : Nat, k ≤ l.length ∧ t = .int .i64 (k : Int) ∧ s = .int .u64 (orN l k : Nat) ∧ wr = w) (fun _ _ t _ => l.length - (intOf t).toNat)
 case atStart => exact ⟨0, Nat.zero_le _, rfl, rfl, rfl⟩
 case round =>
  obtain ⟨k, hk, rfl, rfl, rfl⟩ := hrel
  by_cases hlt : k < l.length
  ·obtain ⟨b1, o1, rfl, q1⟩ := HL.out.at k hlt
   have r1 := q1 wr (Below.refl _ _)
   have HN : Hid (orN l (k + 1) = orN l k ||| (l.getD k 0 % 18446744073709551616).toNat) := rfl
   have hu := u64_or (orN l k) (l.getD k 0) (orN_lt l k)
   rw [← HN.out] at hu
   clear q1
   generalize l.getD k 0 = x at *
   generalize orN l k = su at *
   go_wp2_with fail
   go_roundw
   case rel => exact ⟨k + 1, by omega, by go_num, by rw [IntKind.wrap_u64, hu], trivial⟩
   case measure => simp [intOf]; omega
  ·have hke : k = l.length := by omega
   subst hke
   go_wp2_with fail
   go_ret
   exact ⟨rfl, rfl⟩
theorem tz64_core (x c ix : Nat) (w : World) (hx0 : ((x : Int) == 0) = false)
  (key : IntKind.u64.wrap (bits BinOp.and IntKind.u64 (x : Int) (IntKind.u64.wrap (-(x : Int))) * 285870213051353865) / 288230376151711744 = (ix : Int))
  (hi : ix < 64) (hk : c < 64) (hcell : w.cell? ⟨4, ix, none⟩ = some (.int .u8 (c : Int))) :
  Calls Tryz.prog 187 #[.int .u64 (x : Int)] w fun e w' => e = .returned (.int .i64 (c : Int)) ∧ w' = w := by
 go_enter Tryz.func187, Tryz.ntmps187
 go_wp2_with (simp only [key])
 go_ret
 exact ⟨rfl, rfl⟩
theorem tz64_spec (x : Nat) (hx0 : x ≠ 0) (hx : x < 18446744073709551616) (w : World) (hT : Tz w) : Calls Tryz.prog 187 #[.int .u64 (x : Int)] w fun e w' => e = .returned (.int .i64 (Go.Lib.ctz 64 x : Nat)) ∧ w' = w := by
 have e64 : (2 : Nat) ^ 64 = 18446744073709551616 := by decide
 have hq := Go.Lib.lowest_bit 64 x hx0 (by rw [e64]; exact hx)
 rw [e64] at hq
 have hd := Go.Lib.deBruijn64_at (Go.Lib.ctz 64 x) hq.2
 have hcell := hT _ (by rw [tab_len]; exact hd.1)
 rw [hd.2] at hcell
 exact tz64_core x (Go.Lib.ctz 64 x) _ w (by rw [beq_eq_false_iff_ne]; omega) (tz64_key x _ hx hx0 hq.1) hd.1 hq.2 hcell
theorem tz_spec (x : Nat) (hx0 : x ≠ 0) (hx : x < 18446744073709551616) (w : World) (hT : Tz w) : Calls Tryz.prog 138 #[.int .u64 (x : Int)] w fun e w' => e = .returned (.int .i64 (Go.Lib.ctz 64 x : Nat)) ∧ w' = w := by
 have kt := tz64_spec x hx0 hx w hT
 clear hT
 generalize Go.Lib.ctz 64 x = c at *
 go_enter Tryz.func138, Tryz.ntmps138
 go_wp2_with fail
 refine kt.mono ?_
 rintro e w2 ⟨rfl, hw2⟩
 subst hw2
 clear kt
 go_wp2_with fail
 go_ret
 exact ⟨rfl, rfl⟩
theorem qwasted_spec (l : List Int) (la : Option Addr) (lc : Nat) (w : World) (hT : Tz w) (hl : IntsAt w la l) : Calls Tryz.prog 73 #[.slice la l.length lc] w fun e w' => e = .returned (.int .i64 (wasN l : Int)) ∧ Below w.heap.size w w' := by
 have kg := qgather_spec l la lc w hl
 have hr : Rng l := hl.num
 by_cases h0 : orN l l.length = 0
 ·have HW : Hid (wasN l = 0) := was_zero l hr h0
  rw [h0] at kg
  clear h0 hr hl
  go_enter Tryz.func73, Tryz.ntmps73
  go_wp2_with fail
  refine kg.mono ?_
  rintro e w2 ⟨rfl, hw2⟩
  subst hw2
  clear kg
  go_wp2_with fail
  go_ret
  exact ⟨by rw [HW.out]; rfl, Below.refl _ _⟩
 ·have HW : Hid (wasN l = min (Go.Lib.ctz 64 (orN l l.length)) 31) := was_ctz l hr h0
  have kt := tz_spec _ h0 (orN_lt l l.length) w hT
  have hb0 : ((orN l l.length : Int) == 0) = false := by rw [beq_eq_false_iff_ne]; omega
  clear h0 hr hl hT
  generalize Go.Lib.ctz 64 (orN l l.length) = c at *
  generalize orN l l.length = a at *
  go_enter Tryz.func73, Tryz.ntmps73
  go_wp2_with fail
  refine kg.mono ?_
  rintro e w2 ⟨rfl, hw2⟩
  subst hw2
  clear kg
  go_wp2_with fail
  refine kt.mono ?_
  rintro e w3 ⟨rfl, hw3⟩
  subst hw3
  clear kt
  by_cases hc : c ≤ 31
  ·have HW2 : Hid (wasN l = c) := by show _ = _; rw [HW.out]; omega
   clear HW
   have hci : (c : Int) ≤ 31 := by omega
   go_wp2_with fail
   go_ret
   exact ⟨by rw [HW2.out]; rfl, Below.refl _ _⟩
  ·have HW2 : Hid (wasN l = 31) := by show _ = _; rw [HW.out]; omega
   clear HW
   have hci : 31 < (c : Int) := by omega
   go_wp2_with fail
   go_ret
   exact ⟨by rw [HW2.out]; rfl, Below.refl _ _⟩
theorem xwasted_spec (l : List Int) (la : Option Addr) (lc : Nat) (w : World) (hl : IntsAt w la l) : Calls Tryz.prog 30 #[.slice la l.length lc] w fun e w' => e = .returned (.int .i64 (wasN l : Int)) ∧ w' = w := by
 have h1 := hl.len
 have HL : Hid (IntsAt w la l) := hl
 have KD : Hid (∀ k : Nat, k ≤ 31 → Calls Tryz.prog 77 #[.slice la l.length lc, .int .i64 (k : Int)] w fun e w' => e = .returned (.bool (dvB l k)) ∧ w' = w) := fun k hk => xdiv_spec l k hk la lc w hl
 clear hl
 go_enter Tryz.func30, Tryz.ntmps30
 go_wp2_with fail
 go_loopw [3, 4] (fun s t wr => ∃ i : Nat, i ≤ l.length ∧ t = .int .i64 (i : Int) ∧ s = .bool (!zerB (l.take i)) ∧ wr = w) (fun _ t _ => l.length - (intOf t).toNat)
 case atStart => exact ⟨0, Nat.zero_le _, rfl, rfl, rfl⟩
 case round =>
  obtain ⟨i, hi, rfl, rfl, rfl⟩ := hrel
  by_cases hlt : i < l.length
  ·obtain ⟨b1, o1, rfl, q1⟩ := HL.out.at i hlt
   have r1 := q1 wr (Below.refl _ _)
   clear q1
   have HN : Hid (zerB (l.take (i + 1)) = (zerB (l.take i) && (l.getD i 0 == 0))) := by
    show _ = _
    rw [← take_next l i hlt]
    unfold zerB
    rw [List.all_append]
    simp
   generalize l.getD i 0 = x at *
   generalize zerB (l.take i) = zb at *
   cases zb with
   | false =>
    go_wp2_with fail
    go_roundw
    case rel => exact ⟨i + 1, by omega, by go_num, by rw [HN.out]; rfl, by trivial⟩
    case measure => simp [intOf]; omega
   | true =>
    by_cases h0 : x = 0
    ·have hbn : (x != 0) = false := by rw [bne_eq_false_iff_eq]; exact h0
     have HN2 : Hid (zerB (l.take (i + 1)) = true) := by show _ = _; rw [HN.out, h0]; rfl
     go_wp2_with fail
     go_roundw
     case rel => exact ⟨i + 1, by omega, by go_num, by rw [HN2.out]; rfl, by trivial⟩
     case measure => simp [intOf]; omega
    ·have hbn : (x != 0) = true := by rw [bne_iff_ne]; exact h0
     have HN2 : Hid (zerB (l.take (i + 1)) = false) := by
      show _ = _
      rw [HN.out, show (x == 0) = false from by rw [beq_eq_false_iff_ne]; exact h0]; rfl
     go_wp2_with fail
     go_roundw
     case rel => exact ⟨i + 1, by omega, by go_num, by rw [HN2.out]; rfl, by trivial⟩
     case measure => simp [intOf]; omega
  ·have hie : i = l.length := by omega
   subst hie
   obtain ⟨w9, hw9⟩ : ∃ w9, w9 = wr := ⟨_, rfl⟩
   subst hw9
   have hta : l.take l.length = l := List.take_of_length_le (Nat.le_refl _)
   rw [hta]
   cases hz : zerB l with
   | true =>
    have HW0 : Hid (wasN l = 0) := by show _ = _; unfold wasN; rw [if_pos hz]
    clear hz hta
    simp only [Bool.not_false, Bool.not_true]
    go_wp2_with fail
    go_loopw [5] (fun t wy => t = .int .i64 0 ∧ wy = w9) (fun _ _ => 0)
    case atStart => exact ⟨rfl, rfl⟩
    case round =>
     obtain ⟨rfl, rfl⟩ := hrel
     go_wp2_with fail
     go_ret
     exact ⟨by rw [HW0.out]; rfl, rfl⟩
   | false =>
    have HWK : Hid (wasN l = wasK l 31) := by show _ = _; unfold wasN; rw [if_neg (by rw [hz]; decide)]
    clear hz hta
    simp only [Bool.not_false, Bool.not_true]
    go_wp2_with fail
    go_loopw [5] (fun t wy => ∃ n : Nat, n ≤ 31 ∧ t = .int .i64 (n : Int) ∧ dvB l n = true ∧ wy = w9) (fun t _ => 31 - (intOf t).toNat)
    case atStart => exact ⟨0, by omega, rfl, dvB_zero l, by trivial⟩
    case round =>
     obtain ⟨n, hn, rfl, hdv, hwe⟩ := hrel
     have HDV : Hid (dvB l n = true) := hdv
     clear hdv
     subst hwe
     by_cases hn31 : n < 31
     ·have kd := KD.out (n + 1) (by omega)
      have hcast : ((n + 1 : Nat) : Int) = (n : Int) + 1 := by omega
      rw [hcast] at kd
      cases hq : dvB l (n + 1) with
      | true =>
       have HQ : Hid (dvB l (n + 1) = true) := hq
       rw [hq] at kd
       clear hq hcast
       go_wp2_with fail
       refine kd.mono ?_
       rintro e w2 ⟨rfl, rfl⟩
       go_wp2_with fail
       go_roundw
       case rel => exact ⟨n + 1, by omega, by go_num, HQ.out, by trivial⟩
       case measure => simp [intOf]; omega
      | false =>
       have HW0 : Hid (wasN l = n) := by show _ = _; rw [HWK.out]; exact wasK_is l n 31 hn HDV.out (Or.inr hq)
       rw [hq] at kd
       clear hq hcast
       go_wp2_with fail
       refine kd.mono ?_
       rintro e w2 ⟨rfl, rfl⟩
       go_wp2_with fail
       go_ret
       exact ⟨by rw [HW0.out]; rfl, by trivial⟩
     ·have hne : n = 31 := by omega
      subst hne
      have HW0 : Hid (wasN l = 31) := by show _ = _; rw [HWK.out]; exact wasK_is l 31 31 hn HDV.out (Or.inl rfl)
      go_wp2_with fail
      go_ret
      exact ⟨by rw [HW0.out]; rfl, by trivial⟩
def shfR (l : List Int) (k : Int) : Option (List Int) := if (0 ≤ k ∧ k ≤ 31) ∧ dvB l k.toNat = true then some (shrL l k.toNat) else none
theorem map_next (f : Int → Int) (l : List Int) (i : Nat) (h : i < l.length) : (l.take (i + 1)).map f = (l.take i).map f ++ [f (l.getD i 0)] := by
 rw [← take_next l i h, List.map_append]; rfl
theorem shrL_rng (l : List Int) (k : Nat) (h : Rng l) : Rng (shrL l k) := by
 intro x hx
 obtain ⟨n, hn, rfl⟩ := List.mem_map.1 hx
 exact shr_rng n k (h n hn)
theorem xshift_spec (l : List Int) (k : Int) (la : Option Addr) (lc : Nat) (w : World) (hl : IntsAt w la l) : Calls Tryz.prog 31 #[.slice la l.length lc, .int .i64 k] w (Ret2 (shfR l k) w) := by
 obtain ⟨i3, h3a, h3b, h3c, h3d⟩ := int_info
 have hln := hl.len
 by_cases h1 : k < 0
 ·have HR : Hid (shfR l k = none) := by show _ = _; unfold shfR; rw [if_neg (fun h => by omega)]
  go_enter Tryz.func31, Tryz.ntmps31
  go_wp2_with fail
  go_ret2
  exact ret_none HR.out rfl (Below.refl _ _)
 ·skip
  by_cases h2 : 31 < k
  ·have HR : Hid (shfR l k = none) := by show _ = _; unfold shfR; rw [if_neg (fun h => by omega)]
   go_enter Tryz.func31, Tryz.ntmps31
   go_wp2_with fail
   go_ret2
   exact ret_none HR.out rfl (Below.refl _ _)
  ·skip
   obtain ⟨k', rfl⟩ : ∃ k' : Nat, k = (k' : Int) := ⟨k.toNat, by omega⟩
   have hk31 : k' ≤ 31 := by omega
   have kd := xdiv_spec l k' hk31 la lc w hl
   have HL : Hid (IntsAt w la l) := hl
   clear hl
   cases hd : dvB l k' with
   | false =>
    have HR : Hid (shfR l (k' : Int) = none) := by show _ = _; unfold shfR; rw [if_neg (fun h => by have h2 := h.2; rw [Int.toNat_natCast, hd] at h2; cases h2)]
    rw [hd] at kd
    clear hd
    go_enter Tryz.func31, Tryz.ntmps31
    go_wp2_with fail
    refine kd.mono ?_
    rintro e w2 ⟨rfl, rfl⟩
    go_wp2_with fail
    go_ret2
    exact ret_none HR.out rfl (Below.refl _ _)
   | true =>
    have HR : Hid (shfR l (k' : Int) = some (shrL l k')) := by show _ = _; unfold shfR; rw [if_pos ⟨by omega, by rw [Int.toNat_natCast]; exact hd⟩]; rfl
    rw [hd] at kd
    clear hd
    go_enter Tryz.func31, Tryz.ntmps31
    go_wp2_with fail
    refine kd.mono ?_
    rintro e w2 ⟨rfl, hw2⟩
    subst hw2
    clear kd
    obtain ⟨w, hww⟩ : ∃ w, w = w2 := ⟨_, rfl⟩
    subst hww
    go_wp2_with fail
    go_loopw [6, 7] (fun s t wr => ∃ (i : Nat) (v : Value), i ≤ l.length ∧ t = .int .i64 (i : Int) ∧ s = v ∧ Out w v ((l.take i).map (fun n => n / 2 ^ k')) wr) (fun _ t _ => l.length - (intOf t).toNat)
    case atStart => exact ⟨0, _, Nat.zero_le _, rfl, rfl, Out.nil w⟩
    case round =>
     obtain ⟨i, v, hi, rfl, rfl, hout⟩ := hrel
     obtain ⟨oa, oc, rfl⟩ := hout.shape
     by_cases hlt : i < l.length
     ·obtain ⟨b1, o1, rfl, q1⟩ := HL.out.at i hlt
      have r1 := q1 wr hout.below
      clear q1
      have HN : Hid ((l.take (i + 1)).map (fun n => n / 2 ^ k') = (l.take i).map (fun n => n / 2 ^ k') ++ [(fun n => n / 2 ^ k') (l.getD i 0)]) := map_next _ l i hlt
      have hx5 : ((l.take i).map (fun n => n / 2 ^ k')).length ≤ 17592186044415 := by rw [List.length_map, List.length_take]; omega
      have hxr := HL.out.rng i
      generalize (l.take i).map (fun n => n / 2 ^ k') = xs at *
      generalize l.getD i 0 = x at *
      have HO : Hid (Out w (.slice oa xs.length oc) xs wr) := hout
      clear hout
      go_wp2_with (at_builtin; refine wpList_append_lies _ rfl (.tmp 26) (.tmp 34) 22 rfl w.heap.size 3 i3 (.int .i64 0) 1 8 undI3 h3a h3b h3c h3d rfl (by decide) (.slice oa xs.length oc) xs.length (intsC xs) rfl (HO.out.alloc _).own ⟨wr.heap.size, 0, none⟩ 1 1 [.int .i64 (x / 2 ^ k')] rfl rfl (World.news_of_block (cs := #[.int .i64 (x / 2 ^ k')]) (t := 3) (fr := (0, 0)) (tmp_new wr _)) (one_int _ _) (by decide) (by unfold maxLen; omega) (by omega) (HO.out.alloc _).below.size _ rfl ?_; intro gA cA wA ownA groA hatA hltA)
      have HPA : Hid (Out w (.slice (some ⟨gA, 0, none⟩) (xs.length + 1) cA) (xs ++ [(x / 2 ^ k')]) wA) := (HO.out.alloc _).push ownA groA
      clear ownA groA hatA hltA
      go_wp2_with fail
      go_roundw
      case rel => exact ⟨i + 1, _, by omega, by go_num, rfl, by rw [HN.out]; exact HPA.out⟩
      case measure => simp [intOf]; omega
     ·have hie : i = l.length := by omega
      subst hie
      rw [List.take_of_length_le (Nat.le_refl _)] at hout
      have e : (l.take l.length).map (fun n => n / 2 ^ k') = shrL l k' := by rw [List.take_of_length_le (Nat.le_refl _)]; rfl
      rw [e]
      have hout2 : Out w (.slice oa (shrL l k').length oc) (shrL l k') wr := by
       have e2 : (l.map (fun n => n / 2 ^ k')) = shrL l k' := rfl
       rw [← e2]
       exact hout
      have HI : Hid (IntsAt wr oa (shrL l k') ∧ Below w.heap.size w wr) := ⟨hout2.ints (by show (l.map _).length ≤ _; rw [List.length_map]; omega) (shrL_rng l k' HL.out.num), hout2.below⟩
      clear hout hout2 e
      generalize shrL l k' = R at *
      go_wp2_with fail
      go_ret2
      exact ret_some HR.out rfl HI.out.1 HI.out.2
theorem and_mask (a k : Nat) (ha : a < 18446744073709551616) (hk : k ≤ 31) : bits BinOp.and IntKind.u64 (a : Int) ((2 ^ k - 1 : Nat) : Int) = ((a % 2 ^ k : Nat) : Int) := by
 have hp2 : 2 ^ k ≤ 2147483648 := Nat.le_trans (Nat.pow_le_pow_right (by decide) hk) (by decide)
 rw [bits_and_u64_nat a _ ha (by omega), Nat.and_two_pow_sub_one_eq_mod]
theorem shrL_len (l : List Int) (k : Nat) : (shrL l k).length = l.length := List.length_map ..
theorem qshift_spec (l : List Int) (k : Int) (la : Option Addr) (lc : Nat) (w : World) (hl : IntsAt w la l) : Calls Tryz.prog 74 #[.slice la l.length lc, .int .i64 k] w (RetM (shfR l k) w) := by
 have hln := hl.len
 by_cases h1 : k < 0
 ·have HR : Hid (shfR l k = none) := by show _ = _; unfold shfR; rw [if_neg (fun h => by omega)]
  have hF : shB k = false := by
   cases h : shB k with
   | false => rfl
   | true => rw [shB_iff] at h; omega
  have ks := fun wx => qsh_spec k wx
  rw [hF] at ks
  go_enter Tryz.func74, Tryz.ntmps74
  go_wp2_with fail
  go_quiet ((go_at_call 139; exact Calls.quiet_of_same (ks _)))
  go_wp2_with fail
  go_ret2
  exact retM_none HR.out rfl (below_drewN _ _)
 ·skip
  by_cases h2 : 31 < k
  ·have HR : Hid (shfR l k = none) := by show _ = _; unfold shfR; rw [if_neg (fun h => by omega)]
   have hF : shB k = false := by
    cases h : shB k with
    | false => rfl
    | true => rw [shB_iff] at h; omega
   have ks := fun wx => qsh_spec k wx
   rw [hF] at ks
   go_enter Tryz.func74, Tryz.ntmps74
   go_wp2_with fail
   go_quiet ((go_at_call 139; exact Calls.quiet_of_same (ks _)))
   go_wp2_with fail
   go_ret2
   exact retM_none HR.out rfl (below_drewN _ _)
  ·skip
   obtain ⟨k', rfl⟩ : ∃ k' : Nat, k = (k' : Int) := ⟨k.toNat, by omega⟩
   have hk31 : k' ≤ 31 := by omega
   have hk32 : (k' : Int) ≤ 31 := by omega
   have hF : shB (k' : Int) = true := by rw [shB_iff]; omega
   have ks := fun wx => qsh_spec (k' : Int) wx
   rw [hF] at ks
   have kg := fun n => qgather_spec l la lc (w.drewN n) (hl.drewN n)
   have hor := orN_lt l l.length
   have hmask := and_mask (orN l l.length) k' hor hk31
   have HDV : Hid (dvB l k' = true ↔ orN l l.length % 2 ^ k' = 0) := dvB_or l k' (by omega)
   have hp1 : 1 ≤ 2 ^ k' := Nat.one_le_two_pow
   have hp2 : 2 ^ k' ≤ 2147483648 := Nat.le_trans (Nat.pow_le_pow_right (by decide) hk31) (by decide)
   have hpw : (2 : Int) ^ k' = ((2 ^ k' : Nat) : Int) := by simp
   have HLL : Hid ((shrL l k').length = l.length) := shrL_len l k'
   have HRG : Hid (Rng (shrL l k')) := shrL_rng l k' hl.num
   have HAT : Hid (∀ i, (shrL l k').getD i 0 = l.getD i 0 / 2 ^ k') := fun i => getD_shr l k' i
   have hmk := make_ints l.length hln
   have HFM : Hid (∀ wx, Fill wx wx.heap.size (shrL l k') 0 (wx.alloc (.cells (madeCells #[.int .i64 0] l.length) 3))) := fun wx => by
    have := Fill.made wx wx (Below.refl _ _) (shrL l k')
    rw [shrL_len] at this; exact this
   have HL0 : Hid (∀ n, IntsAt (w.drewN n) la l) := fun n => hl.drewN n
   clear hl hF
   obtain ⟨a, ha⟩ : ∃ a, a = orN l l.length := ⟨_, rfl⟩
   rw [← ha] at hor hmask HDV kg
   clear ha
   by_cases h0 : a % 2 ^ k' = 0
   ·have hd := HDV.out.2 h0
    have HR : Hid (shfR l (k' : Int) = some (shrL l k')) := by show _ = _; unfold shfR; rw [if_pos ⟨by omega, by rw [Int.toNat_natCast]; exact hd⟩]; rfl
    rw [h0] at hmask
    clear hd h0 HDV
    generalize shrL l k' = L at *
    obtain ⟨M, hM⟩ : ∃ M : Nat, M = 2 ^ k' - 1 := ⟨_, rfl⟩
    have hM2 : ((2 ^ k' : Nat) : Int) - 1 = (M : Int) := by omega
    have hM3 : M ≤ 2147483647 := by omega
    rw [← hM] at hmask
    clear hM
    generalize hNN : 2 ^ k' = N at hp1 hp2 hpw hM2
    clear hNN
    go_enter Tryz.func74, Tryz.ntmps74
    go_wp2_with fail
    go_quiet (first | (go_at_call 139; exact Calls.quiet_of_same (ks _)) | (go_at_call 137; exact Calls.quiet_of_same (kg _)))
    have hb2 : Below w.heap.size w (w.drewN nq) := below_drewN _ _
    have HL : Hid (IntsAt (w.drewN nq) la l) := HL0.out nq
    clear kg ks HL0
    generalize w.drewN nq = w2 at *
    have HB2 : Hid (Below w.heap.size w w2) := hb2
    clear hb2
    go_wp2_with fail
    generalize hwa : World.alloc _ _ = wa at *
    have HA : Hid (Fill w2 w2.heap.size L 0 wa) := by rw [← hwa]; exact HFM.out w2
    have HS : True := trivial
    have HM : True := trivial
    clear hwa hmk HFM hmask hp1 hp2 hpw hM2 hM3
    clear HS HM
    go_loopw [7, 8, 26] (fun s7 s8 s26 wr => ∃ i : Nat, i ≤ l.length ∧ s26 = .int .i64 (i : Int) ∧ Fill w2 w2.heap.size L i wr) (fun _ _ s26 _ => l.length - (intOf s26).toNat)
    case atStart => exact ⟨0, Nat.zero_le _, rfl, HA.out⟩
    case round =>
     clear HA
     obtain ⟨i, hi, rfl, hf⟩ := hrel
     have HA : Hid (Fill w2 w2.heap.size L i wr) := hf
     clear hf
     by_cases hlt : i < l.length
     ·obtain ⟨b1, o1, rfl, q1⟩ := HL.out.at i hlt
      have r1 := q1 wr HA.out.below
      have hxr := HL.out.rng i
      have y5 := HA.out.cell i (by rw [HLL.out]; exact hlt)
      have z5 := HA.out.frozen i
      have hv := HAT.out i
      have HNX : Hid (Fill w2 w2.heap.size L (i + 1) (wr.setCell ⟨w2.heap.size, i, none⟩ (.int .i64 (L.getD i 0)))) := HA.out.set (by rw [HLL.out]; exact hlt)
      rw [hv] at HNX
      clear q1 HA hv
      generalize l.getD i 0 = x at *
      generalize (if i < i then L.getD i 0 else 0) = v5 at *
      go_wp2_with fail
      go_roundw
      case rel => exact ⟨i + 1, by omega, by go_num, HNX.out⟩
      case measure => simp [intOf]; omega
     ·have hin : i = l.length := by omega
      subst hin
      have HI : Hid (Made w2 (some ⟨w2.heap.size, 0, none⟩) l.length L wr) := Made.of_fill (by rw [HLL.out]; exact HA.out) (by rw [HLL.out]; exact Nat.le_refl _) (by rw [HLL.out]; omega) HRG.out
      clear HA
      go_wp2_with fail
      go_ret2
      exact retM_some (la := some ⟨w2.heap.size, 0, none⟩) (lc := l.length) HR.out (by rw [HLL.out]; rfl) (HI.out.up HB2.out)
   ·have hd : dvB l k' = false := by
     cases h : dvB l k' with
     | false => rfl
     | true => exact absurd (HDV.out.1 h) h0
    have HR : Hid (shfR l (k' : Int) = none) := by show _ = _; unfold shfR; rw [if_neg (fun h => by have h2 := h.2; rw [Int.toNat_natCast, hd] at h2; cases h2)]
    obtain ⟨r, hr⟩ : ∃ r : Nat, r = a % 2 ^ k' := ⟨_, rfl⟩
    rw [← hr] at hmask h0
    have hbn : ((r : Int) != 0) = true := by rw [bne_iff_ne]; omega
    clear hd h0 HDV hr
    obtain ⟨M, hM⟩ : ∃ M : Nat, M = 2 ^ k' - 1 := ⟨_, rfl⟩
    have hM2 : ((2 ^ k' : Nat) : Int) - 1 = (M : Int) := by omega
    have hM3 : M ≤ 2147483647 := by omega
    rw [← hM] at hmask
    clear hM
    generalize hNN : 2 ^ k' = N at hp1 hp2 hpw hM2
    clear hNN
    go_enter Tryz.func74, Tryz.ntmps74
    go_wp2_with fail
    go_quiet (first | (go_at_call 139; exact Calls.quiet_of_same (ks _)) | (go_at_call 137; exact Calls.quiet_of_same (kg _)))
    have hb2 : Below w.heap.size w (w.drewN nq) := below_drewN _ _
    clear kg ks HL0
    generalize w.drewN nq = w2 at *
    have HB2 : Hid (Below w.heap.size w w2) := hb2
    clear hb2
    go_wp2_with fail
    go_ret2
    exact retM_none HR.out rfl HB2.out
theorem CdAt.set {X X' : World} {n : Nat} {e : Cd} (h : CdAt X e) (hf : FrC (n + 1) e) (hk : ∀ k, n < k → X'.heap[k]? = X.heap[k]?) : CdAt X' e := by
 refine ⟨by rw [hk _ hf.g]; exact h.box, ⟨ints_set h.sb.C hf.c hk, ⟨ints_set h.sb.R.P hf.p hk, ints_set h.sb.R.E hf.e hk, h.sb.R.m1, h.sb.R.m2, h.sb.R.o1, h.sb.R.o2⟩, h.sb.k, h.sb.o, h.sb.w, h.sb.p, h.sb.h⟩, h.cap⟩
theorem cds_best (lv v : Int) (l : List Int) (L : List Cd) (h : L.map cdP = cdL lv (wasN l : Int) v l (shrL l (wasN l)) (trL lv (wasN l : Int)).length) : ∃ e0, L[0]? = some e0 ∧ L.length ≤ 10 ∧ sbR lv v l = some (cdP (shoD e0 L)) ∧ shoD e0 L ∈ L := by
 have hlen : L.length ≤ 10 := by
  have h1 := congrArg List.length h
  have h2 := cdL_len lv (wasN l : Int) v l (shrL l (wasN l)) (trL lv (wasN l : Int)).length
  rw [List.length_map] at h1
  omega
 cases hL : L with
 | nil =>
  obtain ⟨a, ha⟩ := sbR_some lv v l
  rw [sbR_sh, cdL_all, ← h, hL] at ha
  cases ha
 | cons e0 t =>
  rw [← hL]
  refine ⟨e0, by rw [hL]; rfl, hlen, ?_, ?_⟩
  ·rw [sbR_sh, cdL_all, ← h, sh_none _ (cdP e0) (t.map cdP) (by rw [hL]; rfl), shoD_P]
  ·rcases shoD_mem L e0 with h1 | h1
   ·rw [h1, hL]; exact List.mem_cons_self ..
   ·exact h1
theorem z_channel (l : List Int) (lo : Option Addr) (lc : Nat) (v lv : Int) (hlv : 0 ≤ lv ∧ lv ≤ 2) (hv : 1 ≤ v ∧ v ≤ 33) (hn1 : 1 ≤ l.length) (hn2 : l.length ≤ 65535) (hfit : ∀ x ∈ l, sigE x v = 0) (w : World) (hT : Tz w) (hl : IntsAt w lo l) : Calls Tryz.prog 28 #[.slice lo l.length lc, .int .i64 v, .int .i64 lv] w fun e w' => ∃ x : Cd, e = .returned (.agg (cdV x)) ∧ sbR lv v l = some (x.q, x.n) ∧ CdAt w' x ∧ FrC w.heap.size x ∧ Below w.heap.size w w' := by
 have hwv := was_lt l v hv.1 hfit
 have hw31 := wasN_le l
 have KW : Hid (∀ wx, Below w.heap.size w wx → Calls Tryz.prog 73 #[.slice lo l.length lc] wx fun e w' => e = .returned (.int .i64 (wasN l : Int)) ∧ Below wx.heap.size wx w') := fun wx hb => qwasted_spec l lo lc wx (hT.below hb) (hl.below hb)
 have KS : Hid (∀ wx, Below w.heap.size w wx → Calls Tryz.prog 74 #[.slice lo l.length lc, .int .i64 (wasN l : Int)] wx fun e w' => ∃ la lb, e = .returned (.tuple #[.slice la (shrL l (wasN l)).length lb, .int .i64 0]) ∧ Made wx la lb (shrL l (wasN l)) w') := fun wx hb => by
  have k := qshift_spec l (wasN l : Int) lo lc wx (hl.below hb)
  have e : shfR l (wasN l : Int) = some (shrL l (wasN l)) := by
   unfold shfR
   rw [Int.toNat_natCast, if_pos ⟨by omega, wasN_dvB l⟩]
  rw [e] at k
  exact k
 have KC : Hid (∀ wx la lb, Made wx la lb (shrL l (wasN l)) wx → False) ∨ True := Or.inr trivial
 have KD : Hid (∀ (wx w0 : World) (la : Option Addr) (lb : Nat), Made w0 la lb (shrL l (wasN l)) wx → Calls Tryz.prog 76 #[.slice la (shrL l (wasN l)).length lb, .int .i64 (v - (wasN l : Int)), .int .i64 (wasN l : Int), .int .i64 lv] wx fun e w' => ∃ so cap L, e = .returned (.slice so L.length cap) ∧ CL wx (.slice so L.length cap) L w' ∧ L.map cdP = cdL lv (wasN l : Int) v l (shrL l (wasN l)) (trL lv (wasN l : Int)).length) := fun wx w0 la lb hm => by
  have k := z_codings l v lv hlv hv hn1 hn2 hfit la lb hm.cap_ wx hm.ints
  rw [show ((v.toNat - wasN l : Nat) : Int) = v - (wasN l : Int) by omega] at k
  exact k
 have HB0 : Hid (Below w.heap.size w (w.alloc (.cells #[.int .i64 0, .slice none 0 0, .int .i64 0] 63))) := (Below.refl _ _).alloc (Nat.le_refl _) _
 have HR0 : Hid ((w.alloc (.cells #[.int .i64 0, .slice none 0 0, .int .i64 0] 63)).heap[w.heap.size]? = some (.cells #[.int .i64 0, .slice none 0 0, .int .i64 0] 63 (0, 0))) := heap_alloc_new _ _
 clear KC hlv hn1 hn2 hfit hT hl
 go_enter Tryz.func28, Tryz.ntmps28
 go_wp2_with fail
 generalize hwa : World.alloc _ _ = wa at *
 clear hwa
 refine (KW.out wa HB0.out).mono ?_
 rintro e w2 ⟨rfl, hb2⟩
 have HB2 : Hid (Below w.heap.size w w2) := HB0.out.trans (hb2.mono HB0.out.size)
 have HR2 : Hid (w2.heap[w.heap.size]? = some (.cells #[.int .i64 0, .slice none 0 0, .int .i64 0] 63 (0, 0))) := by show _ = _; rw [hb2.block _ (lt_of_block HR0.out)]; exact HR0.out
 clear hb2 HB0 HR0 KW
 go_wp2_with fail
 refine (KS.out w2 HB2.out).mono ?_
 rintro e w3 ⟨la, lb, rfl, hm3⟩
 have hb3 := hm3.below
 have HB3 : Hid (Below w.heap.size w w3) := HB2.out.trans (hb3.mono HB2.out.size)
 have HR3 : Hid (w3.heap[w.heap.size]? = some (.cells #[.int .i64 0, .slice none 0 0, .int .i64 0] 63 (0, 0))) := by show _ = _; rw [hb3.block _ (lt_of_block HR2.out)]; exact HR2.out
 have HM3 : Hid (Made w2 la lb (shrL l (wasN l)) w3) := hm3
 clear hb3 hm3 HB2 HR2 KS
 go_wp2_with fail
 refine (KD.out w3 w2 la lb HM3.out).mono ?_
 rintro e w4 ⟨so, cap, L, rfl, hcl, hmap⟩
 obtain ⟨e0, he0, hL10, hbest, hmem⟩ := cds_best lv v l L hmap
 have hL0 : 0 < L.length := List.length_pos_of_mem hmem
 obtain ⟨b, cap', hv', hle, hcds⟩ := hcl.cds hL0
 cases hv'
 have hb4 := hcl.below
 have HB4 : Hid (Below w.heap.size w w4) := HB3.out.trans (hb4.mono HB3.out.size)
 have HR4 : Hid (w4.heap[w.heap.size]? = some (.cells #[.int .i64 0, .slice none 0 0, .int .i64 0] 63 (0, 0))) := by show _ = _; rw [hb4.block _ (lt_of_block HR3.out)]; exact HR3.out
 have HX4 : Hid (CdAt w4 (shoD e0 L)) := (hcl.at_ _ hmem).at_
 have HF4 : Hid (FrC (w.heap.size + 1) (shoD e0 L)) := (hcl.fr _ hmem).mono (lt_of_block HR3.out)
 have KH := z_shortest L e0 he0 (by omega) b 0 cap w4 hcds
 have HBE : Hid (sbR lv v l = some (cdP (shoD e0 L))) := hbest
 clear hcl hmap he0 hL10 hbest hmem hL0 hle hcds hb4 HB3 HR3 HM3 KD
 generalize shoD e0 L = x at *
 go_wp2_with fail
 refine KH.mono ?_
 rintro e w5 ⟨rfl, hb5⟩
 have HB5 : Hid (Below w.heap.size w w5) := HB4.out.trans (hb5.mono HB4.out.size)
 have HR5 : Hid (w5.heap[w.heap.size]? = some (.cells #[.int .i64 0, .slice none 0 0, .int .i64 0] 63 (0, 0))) := by show _ = _; rw [hb5.block _ (lt_of_block HR4.out)]; exact HR4.out
 have HX5 : Hid (CdAt w5 x) := HX4.out.below hb5
 clear hb5 HB4 HR4 HX4 KH
 obtain ⟨u0, u1, u2⟩ := cod_cells HR5.out
 have fz0 := row_frozen HR5.out 0
 have fz1 := row_frozen HR5.out 1
 have fz2 := row_frozen HR5.out 2
 go_wp2_with fail
 generalize hwf : World.setCell _ _ _ = wf
 have hrow : wf.heap[w.heap.size]? = some (.cells (cdV x) 63 (0, 0)) := by rw [← hwf]; exact s3c_a _ _ _ _ HR5.out
 have hbel : Below w.heap.size w wf := by rw [← hwf]; exact s3c_b _ _ _ _ w (Nat.le_refl _) HB5.out
 have hat : CdAt wf x := HX5.out.set HF4.out (fun k hk => by rw [← hwf]; exact s3c_d _ _ _ _ k (by omega))
 refine bodyPost_ret (v := .agg (cdV x)) ?_ rfl ⟨x, rfl, HBE.out, hat, HF4.out.mono (Nat.le_succ _), hbel⟩
 rw [results_one rfl]
 have hld := run_loadVar_row (P := Tryz.prog) (wf) (w.heap.size) 63 63 (cdV x) (0, 0) _ hrow Tryz.underlying63 rfl info_coding
 simp [asAddr, Result.andThen, hld]
def SubP (lv v : Int) (l : List Int) (w : World) (e : Ending) (w' : World) : Prop := ∃ q n ca cc pa pc ea ec, sbR lv v l = some (q, n) ∧ e = .returned (.tuple #[subV q ca cc pa pc ea ec, .int .i64 ((n : Nat) : Int)]) ∧ SbAt w' q ca pa ea ∧ Below w.heap.size w w'
theorem z_Sub_no (l : List Int) (lo : Option Addr) (lc : Nat) (v lv : Int) (hno : ¬ ((0 ≤ lv ∧ lv ≤ 2) ∧ (1 ≤ v ∧ v ≤ 33) ∧ (1 ≤ l.length ∧ l.length ≤ 65535) ∧ ∀ x ∈ l, sigE x v = 0)) (w : World) (hl : IntsAt w lo l) : Calls Tryz.prog 8 #[.slice lo l.length lc, .int .i64 v, .int .i64 lv] w fun e w' => e = .returned (.tuple #[.agg (subC ⟨0, 0, 0, 0, 0, [], R00⟩ none 0 none 0 none 0), .int .i64 (-1)]) ∧ Below w.heap.size w w' := by
 have HB0 : Hid (Below w.heap.size w (w.alloc (.cells (subC ⟨0, 0, 0, 0, 0, [], R00⟩ none 0 none 0 none 0) 27))) := (Below.refl _ _).alloc (Nat.le_refl _) _
 have HR0 : Hid ((w.alloc (.cells (subC ⟨0, 0, 0, 0, 0, [], R00⟩ none 0 none 0 none 0) 27)).heap[w.heap.size]? = some (.cells (subC ⟨0, 0, 0, 0, 0, [], R00⟩ none 0 none 0 none 0) 27 (0, 0))) := heap_alloc_new _ _
 by_cases h0 : 0 ≤ lv ∧ lv ≤ 2
 ·have KI := fun wx => z_isLevel lv true (tt_iff h0) wx
  have KM : Hid (∀ wx, Below w.heap.size w wx → Calls Tryz.prog 27 #[.slice lo l.length lc, .int .i64 v] wx fun e w' => e = .returned (.bool false) ∧ w' = wx) := fun wx hb => z_mayBe l lo lc v false (ff_iff (fun h => hno ⟨h0, h⟩)) wx (hl.below hb)
  clear hno h0 hl
  go_enter Tryz.func8, Tryz.ntmps8
  go_wp2_with fail
  generalize hwa : World.alloc _ _ = wa at *
  clear hwa
  refine (KI wa).mono ?_
  rintro e w2 ⟨rfl, hw2⟩
  subst hw2
  clear KI
  go_wp2_with fail
  refine (KM.out w2 HB0.out).mono ?_
  rintro e w3 ⟨rfl, hw3⟩
  subst hw3
  clear KM
  obtain ⟨x0, x1, x2, x3, x4, x5, x6, x7, x8, x9⟩ := sub_cells HR0.out
  have fz0 := row_frozen HR0.out 0
  have fz1 := row_frozen HR0.out 1
  have fz2 := row_frozen HR0.out 2
  have fz3 := row_frozen HR0.out 3
  have fz4 := row_frozen HR0.out 4
  have fz5 := row_frozen HR0.out 5
  have fz6 := row_frozen HR0.out 6
  have fz7 := row_frozen HR0.out 7
  have fz8 := row_frozen HR0.out 8
  have fz9 := row_frozen HR0.out 9
  go_wp2_with fail
  generalize hwf : World.setCell _ _ _ = wf
  have hrow : wf.heap[w.heap.size]? = some (.cells (subC ⟨0, 0, 0, 0, 0, [], R00⟩ none 0 none 0 none 0) 27 (0, 0)) := by rw [← hwf]; exact set10_a _ _ _ _ _ _ _ _ _ _ _ HR0.out
  have hbel : Below w.heap.size w wf := by rw [← hwf]; exact set10_b _ _ _ _ _ _ _ _ _ _ _ w (Nat.le_refl _) HB0.out
  refine bodyPost_ret (v := .tuple #[.agg (subC ⟨0, 0, 0, 0, 0, [], R00⟩ none 0 none 0 none 0), .int .i64 (-1)]) ?_ rfl ⟨rfl, hbel⟩
  rw [results_two rfl]
  have hld := run_loadVar_row (P := Tryz.prog) (wf) (w.heap.size) 27 27 (subC ⟨0, 0, 0, 0, 0, [], R00⟩ none 0 none 0 none 0) (0, 0) _ hrow Tryz.underlying27 rfl info_Sub
  simp [asAddr, Result.andThen, hld]
 ·have KI := fun wx => z_isLevel lv false (ff_iff h0) wx
  clear hno h0 hl
  go_enter Tryz.func8, Tryz.ntmps8
  go_wp2_with fail
  generalize hwa : World.alloc _ _ = wa at *
  clear hwa
  refine (KI wa).mono ?_
  rintro e w2 ⟨rfl, hw2⟩
  subst hw2
  clear KI
  obtain ⟨x0, x1, x2, x3, x4, x5, x6, x7, x8, x9⟩ := sub_cells HR0.out
  have fz0 := row_frozen HR0.out 0
  have fz1 := row_frozen HR0.out 1
  have fz2 := row_frozen HR0.out 2
  have fz3 := row_frozen HR0.out 3
  have fz4 := row_frozen HR0.out 4
  have fz5 := row_frozen HR0.out 5
  have fz6 := row_frozen HR0.out 6
  have fz7 := row_frozen HR0.out 7
  have fz8 := row_frozen HR0.out 8
  have fz9 := row_frozen HR0.out 9
  go_wp2_with fail
  generalize hwf : World.setCell _ _ _ = wf
  have hrow : wf.heap[w.heap.size]? = some (.cells (subC ⟨0, 0, 0, 0, 0, [], R00⟩ none 0 none 0 none 0) 27 (0, 0)) := by rw [← hwf]; exact set10_a _ _ _ _ _ _ _ _ _ _ _ HR0.out
  have hbel : Below w.heap.size w wf := by rw [← hwf]; exact set10_b _ _ _ _ _ _ _ _ _ _ _ w (Nat.le_refl _) HB0.out
  refine bodyPost_ret (v := .tuple #[.agg (subC ⟨0, 0, 0, 0, 0, [], R00⟩ none 0 none 0 none 0), .int .i64 (-1)]) ?_ rfl ⟨rfl, hbel⟩
  rw [results_two rfl]
  have hld := run_loadVar_row (P := Tryz.prog) (wf) (w.heap.size) 27 27 (subC ⟨0, 0, 0, 0, 0, [], R00⟩ none 0 none 0 none 0) (0, 0) _ hrow Tryz.underlying27 rfl info_Sub
  simp [asAddr, Result.andThen, hld]
theorem z_Sub_yes (l : List Int) (lo : Option Addr) (lc : Nat) (v lv : Int) (hlv : 0 ≤ lv ∧ lv ≤ 2) (hv : 1 ≤ v ∧ v ≤ 33) (hn1 : 1 ≤ l.length) (hn2 : l.length ≤ 65535) (hfit : ∀ x ∈ l, sigE x v = 0) (w : World) (hT : Tz w) (hl : IntsAt w lo l) : Calls Tryz.prog 8 #[.slice lo l.length lc, .int .i64 v, .int .i64 lv] w (SubP lv v l w) := by
 have HB0 : Hid (Below w.heap.size w (w.alloc (.cells (subC ⟨0, 0, 0, 0, 0, [], R00⟩ none 0 none 0 none 0) 27))) := (Below.refl _ _).alloc (Nat.le_refl _) _
 have HR0 : Hid ((w.alloc (.cells (subC ⟨0, 0, 0, 0, 0, [], R00⟩ none 0 none 0 none 0) 27)).heap[w.heap.size]? = some (.cells (subC ⟨0, 0, 0, 0, 0, [], R00⟩ none 0 none 0 none 0) 27 (0, 0))) := heap_alloc_new _ _
 have KI := fun wx => z_isLevel lv true (tt_iff hlv) wx
 have KM : Hid (∀ wx, Below w.heap.size w wx → Calls Tryz.prog 27 #[.slice lo l.length lc, .int .i64 v] wx fun e w' => e = .returned (.bool true) ∧ w' = wx) := fun wx hb => z_mayBe l lo lc v true (tt_iff ⟨hv, ⟨hn1, hn2⟩, hfit⟩) wx (hl.below hb)
 have KC : Hid (∀ wx, Below w.heap.size w wx → Calls Tryz.prog 28 #[.slice lo l.length lc, .int .i64 v, .int .i64 lv] wx fun e w' => ∃ x : Cd, e = .returned (.agg (cdV x)) ∧ sbR lv v l = some (x.q, x.n) ∧ CdAt w' x ∧ FrC wx.heap.size x ∧ Below wx.heap.size wx w') := fun wx hb => z_channel l lo lc v lv hlv hv hn1 hn2 hfit wx (hT.below hb) (hl.below hb)
 clear hlv hv hn1 hn2 hfit hT hl
 go_enter Tryz.func8, Tryz.ntmps8
 go_wp2_with fail
 generalize hwa : World.alloc _ _ = wa at *
 clear hwa
 refine (KI wa).mono ?_
 rintro e w2 ⟨rfl, hw2⟩
 subst hw2
 clear KI
 go_wp2_with fail
 refine (KM.out w2 HB0.out).mono ?_
 rintro e w3 ⟨rfl, hw3⟩
 subst hw3
 clear KM
 go_wp2_with fail
 refine (KC.out _ HB0.out).mono ?_
 rintro e w4 ⟨x, rfl, hx, hat, hfr, hb4⟩
 have HXE : Hid (sbR lv v l = some (x.q, x.n)) := hx
 have hbd : Below w.heap.size w (w4.alloc (.cells #[.int .i64 0, .slice (some ⟨x.g, 0, none⟩) 1 1, .int .i64 (x.n : Int)] 63)) := (HB0.out.trans (hb4.mono HB0.out.size)).alloc (Nat.le_trans HB0.out.size hb4.size) _
 have HB5 : Hid (Below w.heap.size w (w4.alloc (.cells #[.int .i64 0, .slice (some ⟨x.g, 0, none⟩) 1 1, .int .i64 (x.n : Int)] 63))) := hbd
 have HR5 : Hid ((w4.alloc (.cells #[.int .i64 0, .slice (some ⟨x.g, 0, none⟩) 1 1, .int .i64 (x.n : Int)] 63)).heap[w.heap.size]? = some (.cells (subC ⟨0, 0, 0, 0, 0, [], R00⟩ none 0 none 0 none 0) 27 (0, 0))) := by show _ = _; rw [Below.block ((Below.refl _ _).alloc (Nat.le_refl _) _) _ (Nat.lt_of_lt_of_le (lt_of_block HR0.out) hb4.size), hb4.block _ (lt_of_block HR0.out)]; exact HR0.out
 have HX5 : Hid (CdAt (w4.alloc (.cells #[.int .i64 0, .slice (some ⟨x.g, 0, none⟩) 1 1, .int .i64 (x.n : Int)] 63)) x) := hat.below ((Below.refl _ _).alloc (Nat.le_refl _) _)
 have HC5 : Hid ((w4.alloc (.cells #[.int .i64 0, .slice (some ⟨x.g, 0, none⟩) 1 1, .int .i64 (x.n : Int)] 63)).heap[w4.heap.size]? = some (.cells #[.int .i64 0, .slice (some ⟨x.g, 0, none⟩) 1 1, .int .i64 (x.n : Int)] 63 (0, 0))) := heap_alloc_new _ _
 have HF5 : Hid (FrC (w.heap.size + 1) x) := hfr.mono (lt_of_block HR0.out)
 have hcn : w.heap.size < w4.heap.size := Nat.lt_of_lt_of_le (lt_of_block HR0.out) hb4.size
 clear hx hat hfr hb4 hbd HB0 HR0 KC
 go_upto_region 4 with fail
 generalize hw5 : World.alloc _ _ = w5 at *
 generalize hcb : w4.heap.size = cb at *
 clear hw5 hcb
 obtain ⟨c0, c1, c2⟩ := cod_cells HC5.out
 obtain ⟨x0, x1, x2, x3, x4, x5, x6, x7, x8, x9⟩ := sub_cells HR5.out
 obtain ⟨y0, y1, y2, y3, y4, y5, y6, y7, y8, y9⟩ := sub_cells HX5.out.box
 have fz0 := row_frozen HR5.out 0
 have fz1 := row_frozen HR5.out 1
 have fz2 := row_frozen HR5.out 2
 have fz3 := row_frozen HR5.out 3
 have fz4 := row_frozen HR5.out 4
 have fz5 := row_frozen HR5.out 5
 have fz6 := row_frozen HR5.out 6
 have fz7 := row_frozen HR5.out 7
 have fz8 := row_frozen HR5.out 8
 have fz9 := row_frozen HR5.out 9
 have hcn1 : ¬ cb = w.heap.size := by omega
 have hcn2 : ¬ w.heap.size = cb := by omega
 have hgn : ¬ x.g = w.heap.size := fun e => by have := HF5.out.g; omega
 have hgn2 : ¬ w.heap.size = x.g := fun e => by have := HF5.out.g; omega
 go_region
 go_wp2_with fail
 generalize hwf : World.setCell _ _ _ = wf
 have hrow : wf.heap[w.heap.size]? = some (.cells (subC x.q x.ca x.cc x.pa x.pc x.ea x.ec) 27 (0, 0)) := by rw [← hwf]; exact set10_a _ _ _ _ _ _ _ _ _ _ _ HR5.out
 have hbel : Below w.heap.size w wf := by rw [← hwf]; exact set10_b _ _ _ _ _ _ _ _ _ _ _ w (Nat.le_refl _) HB5.out
 have hat : CdAt wf x := HX5.out.set HF5.out (fun k hk => by rw [← hwf]; exact set10_d _ _ _ _ _ _ _ _ _ _ _ k (by omega))
 have hrow' : wf.drew.heap[w.heap.size]? = some (.cells (subC x.q x.ca x.cc x.pa x.pc x.ea x.ec) 27 (0, 0)) := hrow
 refine bodyPost_ret (v := .tuple #[.agg (subC x.q x.ca x.cc x.pa x.pc x.ea x.ec), .int .i64 (x.n : Int)]) ?_ rfl ⟨x.q, x.n, x.ca, x.cc, x.pa, x.pc, x.ea, x.ec, HXE.out, rfl, (hat.sb.below (Below.refl _ _).drew), hbel.drew⟩
 rw [results_two rfl]
 have hld := run_loadVar_row (P := Tryz.prog) (wf.drew) (w.heap.size) 27 27 (subC x.q x.ca x.cc x.pa x.pc x.ea x.ec) (0, 0) _ hrow' Tryz.underlying27 rfl info_Sub
 simp [asAddr, Result.andThen, hld]
def hm (k : Nat) : Nat := if k = 1 then 0 else 256 - 2 ^ (8 - k)
def hc (b : Nat) : Nat :=
 if b < 128 then 1 else if b < 192 then 0 else if b < 224 then 2 else if b < 240 then 3 else if b < 248 then 4 else if b < 252 then 5 else if b < 254 then 6 else if b < 255 then 7 else 0
end Go.Proofs.YthgpleelpeacjaaGreatDoor
