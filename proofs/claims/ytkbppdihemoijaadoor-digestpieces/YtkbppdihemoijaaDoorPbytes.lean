/- Own text: the program's numbers in bytes (fits, lowFirst, Le, asInt, FromLe), as far as the digest calls them. -/
import Derived.Test.YtkbppdihemoijaaDoorRefbytes
namespace Go.Proofs.YtkbppdihemoijaaDoor
open Go.RowKit
set_option linter.unusedSimpArgs false
set_option linter.unusedVariables false


set_option maxRecDepth 20000 in
set_option maxHeartbeats 800000 in
theorem lowFirst_spec (n k : Nat) (hn : n < 18446744073709551616) (hk : k ≤ 8) (w : World) :
    Calls Tryd.prog 37 #[.int .u64 (n : Int), .int .i64 (k : Int)] w fun e w' => e = .returned (.string (textOf (lowL n k))) ∧ Below w.heap.size w w' := by
  have hmk := made_run k (by omega)
  go_enter Tryd.func37, Tryd.ntmps37
  go_wp2
  have hrow := World.rowIs_made w (.int .u8 0) k 5
  have hbel : Below w.heap.size w (w.alloc (.cells (madeCells #[.int .u8 0] k) 5)) := (Below.refl _ _).alloc (Nat.le_refl _) _
  go_loopw [10] (fun t wr => ∃ (i : Nat), i ≤ k ∧ t = .int .i64 (i : Int) ∧ wr.rowIs w.heap.size 5 k (fun j => .int .u8 ((if j < i then n / 256 ^ j % 256 else 0 : Nat) : Int)) ∧ Below w.heap.size w wr) (fun t _ => k - (intOf t).toNat)
  case atStart => exact ⟨0, Nat.zero_le _, rfl, hrow.congr (fun i _ => by simp), hbel⟩
  case round =>
    obtain ⟨i, hi, rfl, hr, hb⟩ := hrel
    by_cases hlt : i < k
    · have hc := hr.cell hlt
      have hf := hr.frozen i
      go_wp2
      go_roundw
      case rel =>
        refine ⟨i + 1, by omega, by go_num, ?_, hb.setCell (by simp) _⟩
        rw [byte_at]
        refine (hr.set i _).congr (fun j hj => ?_)
        by_cases e : j = i
        · subst e; simp
        · simp only [e, if_false]
          congr 3
          by_cases h : j < i
          · simp [h, show j < i + 1 by omega]
          · simp [h, show ¬ j < i + 1 by omega]
      case measure => simp [intOf]; omega
    · obtain rfl : i = k := by omega
      have hr2 : wr.rowIs w.heap.size 5 i (fun j => .int .u8 ((n / 256 ^ j % 256 : Nat) : Int)) := hr.congr (fun j hj => by simp [hj])
      have hcv := conv_row (cap := i) hr2
      clear hr
      go_wp2
      go_ret
      exact ⟨rfl, hb⟩

set_option maxRecDepth 20000 in
set_option maxHeartbeats 800000 in
theorem fits_spec (n k : Int) (h1 : -9223372036854775808 ≤ n) (h2 : n ≤ 9223372036854775807) (w : World) :
    Calls Tryd.prog 36 #[.int .i64 n, .int .i64 k] w fun e w' => e = .returned (.bool (fitsB n k)) ∧ w' = w := by
  by_cases a : k < 1
  · rw [fits_low n k a]
    go_enter Tryd.func36, Tryd.ntmps36
    go_wp2
    go_ret
    exact ⟨rfl, rfl⟩
  by_cases b : 8 < k
  · rw [fits_wide n k b]
    go_enter Tryd.func36, Tryd.ntmps36
    go_wp2
    go_ret
    exact ⟨rfl, rfl⟩
  by_cases c : n < 0
  · rw [fits_neg n k c]
    go_enter Tryd.func36, Tryd.ntmps36
    go_wp2
    go_ret
    exact ⟨rfl, rfl⟩
  obtain ⟨j, rfl⟩ : ∃ j : Nat, k = (j : Int) := ⟨k.toNat, by omega⟩
  obtain ⟨m, rfl⟩ : ∃ m : Nat, n = (m : Int) := ⟨n.toNat, by omega⟩
  rw [fits_eq m j (by omega) (by omega)]
  have hz := shr_zero m j
  go_enter Tryd.func36, Tryd.ntmps36
  go_wp2
  go_ret
  exact ⟨rfl, rfl⟩

set_option maxRecDepth 20000 in
set_option maxHeartbeats 800000 in
theorem le_spec (n k : Int) (h1 : -9223372036854775808 ≤ n) (h2 : n ≤ 9223372036854775807) (w : World) :
    Calls Tryd.prog 35 #[.int .i64 n, .int .i64 k] w fun e w' => e = .returned (.tuple #[.string (leT n k), .int .i64 (wE n k)]) ∧ Below w.heap.size w w' := by
  by_cases hf : fitsB n k = true
  · obtain ⟨m, j, rfl, rfl, h1, h8, hm⟩ := fits_nat hf
    rw [leT_nat m j hf, wE_yes _ _ hf]
    go_enter Tryd.func35, Tryd.ntmps35
    go_wp2_with fail
    refine (fits_spec _ _ (by omega) (by omega) _).mono ?_
    rintro e w' ⟨rfl, rfl⟩
    go_wp2_with fail
    refine (lowFirst_spec m j (by omega) (by omega) _).mono ?_
    rintro e w' ⟨rfl, hB⟩
    go_wp2
    go_ret2
    exact ⟨rfl, hB⟩
  · have hf' : fitsB n k = false := by simpa using hf
    clear hf
    rw [leT_no n k hf', wE_no _ _ hf']
    go_enter Tryd.func35, Tryd.ntmps35
    go_wp2_with fail
    refine (fits_spec _ _ (by omega) (by omega) _).mono ?_
    rintro e w' ⟨rfl, rfl⟩
    go_wp2
    go_ret2
    exact ⟨rfl, Below.refl _ _⟩

/-- n, or -1 if an int cannot be it. -/
def asI (n : Nat) : Int := if 9223372036854775808 ≤ n then -1 else n

theorem asInt_spec (n : Nat) (h : n < 18446744073709551616) (w : World) :
    Calls Tryd.prog 34 #[.int .u64 (n : Int)] w fun e w' => e = .returned (.int .i64 (asI n)) ∧ w' = w := by
  by_cases hg : 9223372036854775808 ≤ n
  · have e : asI n = -1 := by unfold asI; rw [if_pos hg]
    rw [e]
    clear e
    go_enter Tryd.func34, Tryd.ntmps34
    go_wp2
    go_ret
    exact ⟨rfl, rfl⟩
  · have e : asI n = n := by unfold asI; rw [if_neg hg]
    rw [e]
    clear e
    go_enter Tryd.func34, Tryd.ntmps34
    go_wp2
    go_ret
    exact ⟨ret_int (by first | rfl | omega), rfl⟩

theorem asI_fromBe (l : List Nat) (h : l.length ≤ 8) : asI (val l) = fromBe l := by
  unfold asI fromBe
  by_cases hg : 9223372036854775808 ≤ val l
  · rw [if_pos hg, if_pos (.inr hg)]
  · rw [if_neg hg, if_neg (by omega)]

theorem or_high (v b i : Nat) (hv : v < 256 ^ i) (hb : b < 256) (hi : i ≤ 7) : bits BinOp.or IntKind.u64 (v : Int) (IntKind.u64.wrap ((b : Int) * 2 ^ (8 * i))) = ((b * 256 ^ i + v : Nat) : Int) := by
  have h1 : b * 256 ^ i ≤ 255 * 256 ^ i := Nat.mul_le_mul_right _ (by omega)
  have h2 := pow_le_of i 7 hi
  have e : ((2 : Int) ^ (8 * i)) = ((256 ^ i : Nat) : Int) := by rw [← pow8]; simp
  have e2 : (b : Int) * ((256 ^ i : Nat) : Int) = ((b * 256 ^ i : Nat) : Int) := by simp
  have e3 : IntKind.u64.wrap ((b * 256 ^ i : Nat) : Int) = ((b * 256 ^ i : Nat) : Int) := by rw [IntKind.wrap_u64]; omega
  rw [e, e2, e3, u64_or_nat _ _ (by omega) (by omega), Nat.or_comm]
  congr 1
  have := nat_join (8 * i) (b * 256 ^ i) v (by rw [pow8]; simp) (by rw [pow8]; exact hv)
  exact this

set_option maxRecDepth 20000 in
set_option maxHeartbeats 800000 in
theorem fromLe_spec (s : ByteArray) (hs : s.size ≤ 200000000000000) (w : World) :
    Calls Tryd.prog 30 #[.string s] w fun e w' => e = .returned (.int .i64 (fromBe (bytesOf s).reverse)) ∧ w' = w := by
  by_cases h8 : s.size ≤ 8
  · go_enter Tryd.func30, Tryd.ntmps30
    go_wp2
    go_loop [3, 10] (fun x t => ∃ (i v : Nat), i ≤ s.size ∧ v = val ((bytesOf s).take i).reverse ∧ x = .int .u64 (v : Int) ∧ t = .int .i64 (i : Int)) (fun _ t => s.size - (intOf t).toNat)
    case atStart => exact ⟨0, 0, Nat.zero_le _, rfl, rfl, rfl⟩
    case round =>
      obtain ⟨i, v, hi, hv, rfl, rfl⟩ := hrel
      by_cases hlt : i < s.size
      · have hb : v < 256 ^ i := by
          have := val_lt ((bytesOf s).take i).reverse (fun b hb => take_lt s i b (List.mem_reverse.1 hb))
          rw [List.length_reverse, List.length_take, bytesOf_length, Nat.min_eq_left hi] at this
          omega
        have hx : (s[i]'hlt).toNat < 256 := UInt8.toNat_lt _
        have HV : Hid ((s[i]'hlt).toNat * 256 ^ i + v = val ((bytesOf s).take (i + 1)).reverse) := by
          show _ = _
          rw [take_bytes s i hlt, List.reverse_append, List.reverse_singleton, List.singleton_append, val_cons, List.length_reverse, List.length_take, bytesOf_length, Nat.min_eq_left hi, ← hv]
        have hor := or_high v _ i hb hx (by omega)
        have HB : Hid (v < 256 ^ i) := hb
        clear hb hv
        go_wp2
        go_round
        case rel => exact ⟨i + 1, _, by omega, HV.out, by go_num, by go_num⟩
        case measure => simp [intOf]; omega
      · obtain rfl : i = s.size := by omega
        have HV : Hid (v = val (bytesOf s).reverse) := by
          show _ = _
          rw [hv, List.take_of_length_le (by rw [bytesOf_length]; exact Nat.le_refl _)]
        have hlt8 : v < 18446744073709551616 := by
          have := val_lt (bytesOf s).reverse (fun b hb => bytesOf_lt s b (List.mem_reverse.1 hb))
          rw [List.length_reverse, bytesOf_length] at this
          have h3 := pow_le_of s.size 8 h8
          rw [HV.out]
          omega
        have HA : Hid (asI v = fromBe (bytesOf s).reverse) := by
          show _ = _
          rw [HV.out, asI_fromBe _ (by rw [List.length_reverse, bytesOf_length]; exact h8)]
        clear hv
        go_wp2_with fail
        refine (asInt_spec v hlt8 _).mono ?_
        rintro e w1 ⟨rfl, rfl⟩
        rw [HA.out]
        go_wp2
        go_ret
        exact ⟨rfl, rfl⟩
  · rw [fromBe_long _ (by rw [List.length_reverse, bytesOf_length]; omega)]
    go_enter Tryd.func30, Tryd.ntmps30
    go_wp2
    go_ret
    exact ⟨rfl, rfl⟩

end Go.Proofs.YtkbppdihemoijaaDoor
