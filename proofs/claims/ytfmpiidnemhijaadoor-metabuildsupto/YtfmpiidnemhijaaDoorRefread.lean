/- Own text: what a read answers, as plain functions, and the walks of the document's reader. -/
import Derived.Test.YtfmpiidnemhijaaDoorRcalls
namespace Go.Proofs.YtfmpiidnemhijaaDoor
open Go.RowKit
set_option linter.unusedSimpArgs false
set_option linter.unusedVariables false


/-- The document's reader at block x. -/
def Rr (w : World) (x : Nat) (s : ByteArray) (at_ : Nat) : Prop := w.heap[x]? = some (.cells #[.string s, .int .i64 (at_ : Int)] 55 (0, 0))

section
variable {w : World} {x : Nat} {s : ByteArray} {at_ : Nat}
theorem Rr.c0 (h : Rr w x s at_) : w.cell? ⟨x, 0, none⟩ = some (.string s) := by unfold Rr at h; simp [World.cell?, h]
theorem Rr.c1 (h : Rr w x s at_) : w.cell? ⟨x, 1, none⟩ = some (.int .i64 (at_ : Int)) := by unfold Rr at h; simp [World.cell?, h]
theorem Rr.f (h : Rr w x s at_) (o : Nat) : w.frozen? ⟨x, o, none⟩ = false := by unfold Rr at h; simp [World.frozen?, h]
theorem Rr.lt (h : Rr w x s at_) : x < w.heap.size := lt_of_block h
theorem Rr.drewN (h : Rr w x s at_) (n : Nat) : Rr (w.drewN n) x s at_ := h
theorem Rr.set (h : Rr w x s at_) (y : Nat) : Rr (w.setCell ⟨x, 1, none⟩ (.int .i64 (y : Int))) x s y := by
  unfold Rr at h ⊢
  rw [block_setCell w x 1 _ _ _ h]
  simp
theorem Rr.stays {w' : World} (h : Rr w x s at_) {S : Nat → Prop} (hS : Stays S w w') (hq : ¬ S x) : Rr w' x s at_ := by
  unfold Rr at h ⊢
  rw [hS.block x (lt_of_block h) hq]
  exact h
end

theorem i64_and1 (n : Int) : bits BinOp.and IntKind.i64 n 1 = n % 2 := by
  show IntKind.i64.wrap ((BitVec.ofInt 64 n &&& BitVec.ofInt 64 1).toNat : Int) = _
  rw [BitVec.toNat_and, BitVec.toNat_ofInt, show (BitVec.ofInt 64 1).toNat = 2 ^ 1 - 1 from rfl, Nat.and_two_pow_sub_one_eq_mod, IntKind.wrap_i64]
  omega

theorem bitsAt_lt2 (s : ByteArray) (at_ : Nat) : bitsAt s at_ 1 < 2 := bitsAt_lt s at_ 1

theorem bit_val (y c : Nat) (hy : y < 256) : bits BinOp.and IntKind.i64 (wrap64 ((y : Int) / 2 ^ c)) 1 = ((y / 2 ^ c % 2 ^ 1 : Nat) : Int) := by
  have hd : y / 2 ^ c ≤ y := Nat.div_le_self _ _
  rw [i64_and1, div_cast]
  generalize y / 2 ^ c = z at *
  unfold wrap64
  omega

theorem bit_spec (x : Nat) (s : ByteArray) (hs : s.size ≤ 1000000000000000000) (a0 at_ : Nat) (ha : at_ < 8 * s.size) (w : World) (h : Rr w x s a0) :
    Calls Tryd.prog 44 #[.pointer (some ⟨x, 0, none⟩), .int .i64 (at_ : Int)] w fun e w' => e = .returned (.int .i64 (bitsAt s at_ 1 : Int)) ∧ w' = w := by
  have c0 := h.c0
  obtain ⟨b, c, hbc, hc8⟩ : ∃ b c : Nat, at_ = 8 * b + c ∧ c < 8 := ⟨at_ / 8, at_ % 8, by omega, by omega⟩
  have hdiv : (at_ : Int) / 8 = (b : Int) := by omega
  have hmod : (at_ : Int) % 8 = (c : Int) := by omega
  have hbs : b < s.size := by omega
  have hv := bitsAt_byte s b c 1 hbs (by omega) hc8
  rw [← hbc] at hv
  have HV : Hid _ := hv
  have HB : Hid _ := hbc
  clear hv hbc h
  go_enter Tryd.func44, Tryd.ntmps44
  go_wp2
  go_ret
  refine ⟨ret_int ?_, rfl⟩
  rw [HV.out, show 8 - c - 1 = 7 - c from by omega]
  exact bit_val _ _ (UInt8.toNat_lt _)

theorem refleft_spec (x : Nat) (s : ByteArray) (hs : s.size ≤ 1000000000000000000) (at_ : Nat) (ha : at_ ≤ 8 * s.size) (w : World) (h : Rr w x s at_) :
    Calls Tryd.prog 43 #[.pointer (some ⟨x, 0, none⟩)] w fun e w' => e = .returned (.int .i64 (8 * (s.size : Int) - (at_ : Int))) ∧ ∃ n, w' = w.drewN n := by
  have c0 := h.c0
  have c1 := h.c1
  go_enter Tryd.func43, Tryd.ntmps43
  go_wp2
  go_quiet (fail)
  go_wp2
  go_ret
  exact ⟨ret_int (by omega), _, rfl⟩

theorem refget_width (x : Nat) (k : Int) (hk : k < 0 ∨ 64 < k) (w : World) : Calls Tryd.prog 22 #[.pointer (some ⟨x, 0, none⟩), .int .i64 k] w fun e w' => e = .returned (.tuple #[.int .u64 0, .int .i64 11]) ∧ w' = w := by
  rcases hk with hk | hk
  · go_enter Tryd.func22, Tryd.ntmps22
    go_wp2
    go_ret2
    exact ⟨rfl, rfl⟩
  · go_enter Tryd.func22, Tryd.ntmps22
    go_wp2
    go_ret2
    exact ⟨rfl, rfl⟩

theorem refget_end (x : Nat) (s : ByteArray) (hs : s.size ≤ 1000000000000000000) (at_ : Nat) (ha : at_ ≤ 8 * s.size) (k : Nat) (hk : k ≤ 64) (he : 8 * s.size < at_ + k) (w : World) (h : Rr w x s at_) :
    Calls Tryd.prog 22 #[.pointer (some ⟨x, 0, none⟩), .int .i64 (k : Int)] w fun e w' => e = .returned (.tuple #[.int .u64 0, .int .i64 10]) ∧ ∃ n, w' = w.drewN n := by
  go_enter Tryd.func22, Tryd.ntmps22
  go_wp2_with (go_at_call 43; refine (refleft_spec x s hs at_ ha _ h).mono ?_; rintro e w' ⟨rfl, n1, rfl⟩)
  go_ret2
  exact ⟨rfl, _, rfl⟩

set_option maxRecDepth 20000 in
set_option maxHeartbeats 800000 in
theorem refget_ok (x : Nat) (s : ByteArray) (hs : s.size ≤ 1000000000000000000) (at_ : Nat) (k : Nat) (hk : k ≤ 64) (he : at_ + k ≤ 8 * s.size) (w : World) (h : Rr w x s at_) :
    Calls Tryd.prog 22 #[.pointer (some ⟨x, 0, none⟩), .int .i64 (k : Int)] w fun e w' => e = .returned (.tuple #[.int .u64 (bitsAt s at_ k : Int), .int .i64 0]) ∧ Rr w' x s (at_ + k) ∧ Stays (only x) w w' := by
  go_enter Tryd.func22, Tryd.ntmps22
  go_wp2_with (go_at_call 43; refine (refleft_spec x s hs at_ (by omega) _ h).mono ?_; rintro e w' ⟨rfl, n1, rfl⟩)
  go_loop [6, 7] (fun u i => ∃ j : Nat, j ≤ k ∧ i = .int .i64 (j : Int) ∧ u = .int .u64 (bitsAt s at_ j : Int)) (fun _ i => k - (intOf i).toNat)
  case atStart => exact ⟨0, Nat.zero_le _, rfl, by rw [bitsAt_zero]; rfl⟩
  case round =>
    obtain ⟨j, hj, rfl, rfl⟩ := hrel
    have c1 := h.c1
    by_cases hlt : j < k
    · have hb := bitsAt_lt s at_ j
      have h63 : (2 : Nat) ^ j ≤ 2 ^ 63 := pow_le_of j 63 (by omega)
      have hb2 : bitsAt s at_ j < 9223372036854775808 := by omega
      have hadd := bitsAt_add s at_ j 1 (by omega)
      have h1 := bitsAt_lt2 s (at_ + j)
      have HA : Hid _ := hadd
      clear hb h63 hadd
      go_wp2_with fail
      rw [show (at_ : Int) + (j : Int) = ((at_ + j : Nat) : Int) from by omega]
      refine (bit_spec x s hs at_ (at_ + j) (by omega) _ (h.drewN _)).mono ?_
      rintro e w2 ⟨rfl, rfl⟩
      go_wp2
      go_round
      case rel =>
        refine ⟨j + 1, by omega, by go_num, ?_⟩
        rw [HA.out]
        go_num
      case measure => simp [intOf]; omega
    · obtain rfl : j = k := by omega
      have f1 := h.f 1
      go_wp2
      go_ret2
      refine ⟨rfl, ?_, ((Stays.refl _ _).drewN _).setCell _ _ (.inl rfl)⟩
      have := (h.drewN n1).set (at_ + j)
      simpa using this

/-- The bit at the place, or what lies behind it. -/
theorem lead_step (s : ByteArray) (at_ : Nat) (h : at_ < 8 * s.size) : lead (ahead s at_) = if bitsAt s at_ 1 = 0 then 1 + lead (ahead s (at_ + 1)) else 0 := by
  have hl : at_ < (sbits (bytesOf s)).length := by rw [sbits_length, bytesOf_length]; exact h
  have e : ahead s at_ = (sbits (bytesOf s))[at_] :: ahead s (at_ + 1) := by
    unfold ahead
    exact List.drop_eq_getElem_cons hl
  have eb : bitsAt s at_ 1 = (sbits (bytesOf s))[at_] := by
    unfold bitsAt
    rw [List.drop_eq_getElem_cons hl, List.take_succ_cons, List.take_zero, num_cons, num_nil]
    simp
  rw [e, lead_cons, eb]

end Go.Proofs.YtfmpiidnemhijaaDoor
