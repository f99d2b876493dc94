/- Own text: a reader of bits in memory, the bits of a text, and the walks of its place's methods. the walks of 'folded' and of the document's 'Fold', and of the writer's 'Rice'. how many bits 0 lie ahead, and the walk of the reader's 'zeros'. the contracts of the reader's calls. the walk of the law's own examples ('awake'): they answer true, and of what was there nothing turns. -/
import Derived.Test.YtkhdkmdiblomhaaG3x
import Derived.Laws.MathBits
namespace Go.Proofs.Ytkhdkmdiblomhaa
open Go.RowKit
set_option linter.unusedSimpArgs false
set_option linter.unusedVariables false


/-- The bits of bytes. -/
def sbits (l : List Nat) : List Nat := l.flatMap fun b => bitsOf b 8

theorem sbits_length (l : List Nat) : (sbits l).length = 8 * l.length := by
  induction l with
  | nil => rfl
  | cons b t ih =>
    have : sbits (b :: t) = bitsOf b 8 ++ sbits t := rfl
    rw [this, List.length_append, ih, bitsOf_length, List.length_cons]
    omega

theorem sbits_01 (l : List Nat) : Bits01 (sbits l) := by
  intro b hb
  obtain ⟨x, _, hx⟩ := List.mem_flatMap.1 hb
  exact bitsOf_01 x 8 b hx

theorem sbits_drop (l : List Nat) (i : Nat) (h : i < l.length) : (sbits l).drop (8 * i) = bitsOf l[i] 8 ++ (sbits l).drop (8 * (i + 1)) := by
  induction l generalizing i with
  | nil => simp at h
  | cons b t ih =>
    have e : sbits (b :: t) = bitsOf b 8 ++ sbits t := rfl
    cases i with
    | zero =>
      rw [e]
      simp only [Nat.mul_zero, List.drop_zero, List.getElem_cons_zero, Nat.zero_add, Nat.mul_one]
      rw [List.drop_append, List.drop_eq_nil_of_le (by rw [bitsOf_length]; omega), bitsOf_length]
      simp
    | succ i =>
      have h' : i < t.length := by simpa using h
      have hd : ∀ j, (sbits (b :: t)).drop (8 * (j + 1)) = (sbits t).drop (8 * j) := by
        intro j
        rw [e, List.drop_append, List.drop_eq_nil_of_le (by rw [bitsOf_length]; omega), bitsOf_length, List.nil_append]
        congr 1
      rw [hd, hd, ih i h']
      rfl

/-- Bits within one byte. -/
theorem sbits_part (l : List Nat) (at_ part : Nat) (h : at_ / 8 < l.length) (hp : at_ % 8 + part ≤ 8) :
    ((sbits l).drop at_).take part = bitsOf (l[at_ / 8] / 2 ^ (8 - at_ % 8 - part)) part := by
  have e : at_ = 8 * (at_ / 8) + at_ % 8 := by omega
  have h1 : (sbits l).drop at_ = ((sbits l).drop (8 * (at_ / 8))).drop (at_ % 8) := by rw [List.drop_drop, ← e]
  rw [h1, sbits_drop l _ h]
  generalize l[at_ / 8] = b
  generalize hX : (sbits l).drop (8 * (at_ / 8 + 1)) = X
  generalize at_ % 8 = r at *
  have h2 : bitsOf b 8 = bitsOf (b / 2 ^ (8 - r)) r ++ bitsOf b (8 - r) := by
    have := bitsOf_add b r (8 - r)
    rwa [show r + (8 - r) = 8 from by omega] at this
  have h3 : bitsOf b (8 - r) = bitsOf (b / 2 ^ (8 - r - part)) part ++ bitsOf b (8 - r - part) := by
    have := bitsOf_add b part (8 - r - part)
    rwa [show part + (8 - r - part) = 8 - r from by omega] at this
  rw [h2, List.append_assoc, List.drop_append, List.drop_eq_nil_of_le (by rw [bitsOf_length]; omega), bitsOf_length, Nat.sub_self, List.drop_zero, List.nil_append, h3, List.append_assoc, List.take_append,
    List.take_of_length_le (by rw [bitsOf_length]; omega), bitsOf_length, Nat.sub_self, List.take_zero, List.append_nil]

/-- A text's bytes as numbers. -/
def bytesOf (s : ByteArray) : List Nat := s.data.toList.map UInt8.toNat

theorem bytesOf_length (s : ByteArray) : (bytesOf s).length = s.size := by
  unfold bytesOf
  rw [List.length_map]
  rfl
theorem bytesOf_get (s : ByteArray) (i : Nat) (h : i < s.size) : (bytesOf s)[i]'(by rw [bytesOf_length]; exact h) = (s[i]'h).toNat := by
  unfold bytesOf
  rw [List.getElem_map]
  rfl
theorem bytesOf_lt (s : ByteArray) : ∀ b ∈ bytesOf s, b < 256 := by
  intro b hb
  obtain ⟨x, _, rfl⟩ := List.mem_map.1 hb
  exact x.toNat_lt

/-- The number in the next k bits. -/
def bitsAt (s : ByteArray) (at_ k : Nat) : Nat := num (((sbits (bytesOf s)).drop at_).take k)

theorem bitsAt_zero (s : ByteArray) (at_ : Nat) : bitsAt s at_ 0 = 0 := by simp [bitsAt, num]

theorem bitsAt_lt (s : ByteArray) (at_ k : Nat) : bitsAt s at_ k < 2 ^ k := by
  have h := num_lt _ (((sbits_01 (bytesOf s)).drop at_).take k)
  refine Nat.lt_of_lt_of_le h (pow_le_of _ _ ?_)
  rw [List.length_take]
  omega

theorem bitsAt_add (s : ByteArray) (at_ j t : Nat) (h : at_ + j + t ≤ 8 * s.size) : bitsAt s at_ (j + t) = bitsAt s at_ j * 2 ^ t + bitsAt s (at_ + j) t := by
  unfold bitsAt
  rw [List.take_add, num_append, List.drop_drop]
  congr 3
  rw [List.length_take, List.length_drop, sbits_length, bytesOf_length]
  omega

theorem bitsAt_byte (s : ByteArray) (b c t : Nat) (hb : b < s.size) (h : c + t ≤ 8) (hc : c < 8) : bitsAt s (8 * b + c) t = (s[b]'hb).toNat / 2 ^ (8 - c - t) % 2 ^ t := by
  have e1 : (8 * b + c) / 8 = b := by omega
  have e2 : (8 * b + c) % 8 = c := by omega
  unfold bitsAt
  rw [sbits_part (bytesOf s) (8 * b + c) t (by rw [bytesOf_length, e1]; exact hb) (by omega), num_bitsOf]
  simp only [e1, e2, bytesOf_get s b hb]

theorem take_part (s : ByteArray) (at_ j t b c : Nat) (ha : at_ + j = 8 * b + c) (hb : b < s.size) (h : c + t ≤ 8) (hc : c < 8) (hj : j + t ≤ 64) :
    bits BinOp.or IntKind.u64 (IntKind.u64.wrap ((bitsAt s at_ j : Int) * 2 ^ t)) (bits BinOp.and IntKind.u64 (IntKind.u64.wrap (((s[b]'hb).toNat : Nat) : Int) / 2 ^ (8 - c - t)) (IntKind.u64.wrap (IntKind.u64.wrap (2 ^ t) - 1)))
      = (bitsAt s at_ (j + t) : Int) := by
  have h0 := bitsAt_lt s at_ j
  have hm : bitsAt s at_ j * 2 ^ t < 2 ^ j * 2 ^ t := Nat.mul_lt_mul_of_pos_right h0 (Nat.two_pow_pos t)
  rw [← Nat.pow_add] at hm
  have h64 : (2 : Nat) ^ (j + t) ≤ 2 ^ 64 := pow_le_of _ 64 hj
  have hx : (s[b]'hb).toNat < 256 := UInt8.toNat_lt _
  have hd : (s[b]'hb).toNat / 2 ^ (8 - c - t) ≤ (s[b]'hb).toNat := Nat.div_le_self _ _
  have ew : IntKind.u64.wrap (((s[b]'hb).toNat : Nat) : Int) / 2 ^ (8 - c - t) = (((s[b]'hb).toNat / 2 ^ (8 - c - t) : Nat) : Int) := by
    have : IntKind.u64.wrap (((s[b]'hb).toNat : Nat) : Int) = (((s[b]'hb).toNat : Nat) : Int) := by rw [IntKind.wrap_u64]; omega
    rw [this]
    simp
  rw [ew, or_u64 _ _ t (by omega) (by omega) (by omega), bitsAt_add s at_ j t (by omega), ha, bitsAt_byte s b c t hb h hc]

/-- A reader at block q. -/
def Rd (w : World) (q : Nat) (s : ByteArray) (at_ : Nat) : Prop := w.heap[q]? = some (.cells #[.int .i64 (at_ : Int), .int .i64 (8 * (s.size : Int)), .string s] 60 (0, 0))

section
variable {w : World} {q : Nat} {s : ByteArray} {at_ : Nat}
theorem Rd.c0 (h : Rd w q s at_) : w.cell? ⟨q, 0, none⟩ = some (.int .i64 (at_ : Int)) := by unfold Rd at h; simp [World.cell?, h]
theorem Rd.c1 (h : Rd w q s at_) : w.cell? ⟨q, 1, none⟩ = some (.int .i64 (8 * (s.size : Int))) := by unfold Rd at h; simp [World.cell?, h]
theorem Rd.c2 (h : Rd w q s at_) : w.cell? ⟨q, 2, none⟩ = some (.string s) := by unfold Rd at h; simp [World.cell?, h]
theorem Rd.f (h : Rd w q s at_) (o : Nat) : w.frozen? ⟨q, o, none⟩ = false := by unfold Rd at h; simp [World.frozen?, h]
theorem Rd.lt (h : Rd w q s at_) : q < w.heap.size := lt_of_block h
theorem Rd.drewN (h : Rd w q s at_) (n : Nat) : Rd (w.drewN n) q s at_ := h
theorem Rd.set (h : Rd w q s at_) (x : Nat) : Rd (w.setCell ⟨q, 0, none⟩ (.int .i64 (x : Int))) q s x := by
  unfold Rd at h ⊢
  rw [block_setCell w q 0 _ _ _ h]
  simp
theorem Rd.stays {w' : World} (h : Rd w q s at_) {S : Nat → Prop} (hS : Stays S w w') (hq : ¬ S q) : Rd w' q s at_ := by
  unfold Rd at h ⊢
  rw [hS.block q (lt_of_block h) hq]
  exact h
end

/-- Only block q may turn. -/
def only (q : Nat) : Nat → Prop := fun k => k = q

theorem of_spec (s : ByteArray) (hs : s.size ≤ 1000000000000000000) (w : World) : Calls Try.prog 11 #[.string s] w fun e w' => e = .returned (.pointer (some ⟨w.heap.size, 0, none⟩)) ∧ Rd w' w.heap.size s 0 ∧ Below w.heap.size w w' := by
  go_enter Try.func11, Try.ntmps11
  go_wp2
  go_ret
  refine ⟨rfl, ?_, (Below.refl _ _).alloc (Nat.le_refl _) _⟩
  unfold Rd
  rw [heap_alloc_new]
  rfl

theorem passed_spec (q : Nat) (s : ByteArray) (at_ : Nat) (w : World) (h : Rd w q s at_) : Calls Try.prog 30 #[.pointer (some ⟨q, 0, none⟩)] w fun e w' => e = .returned (.int .i64 (at_ : Int)) ∧ w' = w := by
  have c0 := h.c0
  go_enter Try.func30, Try.ntmps30
  go_wp2
  go_ret
  exact ⟨rfl, rfl⟩

theorem rest_spec (q : Nat) (s : ByteArray) (hs : s.size ≤ 1000000000000000000) (at_ : Nat) (ha : at_ ≤ 8 * s.size) (w : World) (h : Rd w q s at_) : Calls Try.prog 31 #[.pointer (some ⟨q, 0, none⟩)] w fun e w' => e = .returned (.int .i64 (8 * (s.size : Int) - (at_ : Int))) ∧ ∃ n, w' = w.drewN n := by
  have c0 := h.c0
  have c1 := h.c1
  go_enter Try.func31, Try.ntmps31
  go_wp2
  go_quiet (fail)
  go_wp2
  go_ret
  exact ⟨rfl, _, rfl⟩

theorem pass_spec (q : Nat) (s : ByteArray) (hs : s.size ≤ 1000000000000000000) (at_ k : Nat) (hk : at_ + k ≤ 8 * s.size) (w : World) (h : Rd w q s at_) : Calls Try.prog 48 #[.pointer (some ⟨q, 0, none⟩), .int .i64 (k : Int)] w fun e w' => e = .returned (.tuple #[]) ∧ Rd w' q s (at_ + k) ∧ Stays (only q) w w' := by
  have c0 := h.c0
  have f0 := h.f 0
  go_enter Try.func48, Try.ntmps48
  go_wp2
  go_end0
  refine ⟨rfl, ?_, (Stays.refl _ _).setCell _ _ (.inl rfl)⟩
  have := h.set (at_ + k)
  simpa using this

theorem at_spec (q : Nat) (s : ByteArray) (at_ : Nat) (w : World) (h : Rd w q s at_) : Calls Try.prog 16 #[.pointer (some ⟨q, 0, none⟩)] w fun e w' => e = .returned (.int .i64 (at_ : Int)) ∧ w' = w := by
  have c0 := h.c0
  go_enter Try.func16, Try.ntmps16
  go_wp2
  go_ret
  exact ⟨rfl, rfl⟩

set_option maxRecDepth 20000 in
set_option maxHeartbeats 800000 in
theorem take_spec (q : Nat) (s : ByteArray) (hs : s.size ≤ 1000000000000000000) (at_ k : Nat) (hk : at_ + k ≤ 8 * s.size) (hk64 : k ≤ 64) (w : World) (h : Rd w q s at_) :
    Calls Try.prog 32 #[.pointer (some ⟨q, 0, none⟩), .int .i64 (k : Int)] w fun e w' => e = .returned (.int .u64 (bitsAt s at_ k : Int)) ∧ Rd w' q s (at_ + k) ∧ Stays (only q) w w' := by
  go_enter Try.func32, Try.ntmps32
  go_wp2
  go_loopw [1, 5] (fun t u wr => ∃ (j : Nat), j ≤ k ∧ t = .int .i64 ((k - j : Nat) : Int) ∧ u = .int .u64 (bitsAt s at_ j : Int) ∧ Rd wr q s (at_ + j) ∧ Stays (only q) w wr) (fun t _ _ => (intOf t).toNat)
  case atStart => exact ⟨0, Nat.zero_le _, rfl, rfl, h, Stays.refl _ _⟩
  case round =>
    obtain ⟨j, hj, rfl, rfl, hR, hS⟩ := hrel
    by_cases hlt : j < k
    · obtain ⟨r, hr⟩ : ∃ r, r = k - j := ⟨_, rfl⟩
      rw [← hr]
      obtain ⟨a, ha⟩ : ∃ a, a = at_ + j := ⟨_, rfl⟩
      rw [← ha] at hR
      have hr0 : 0 < r := by omega
      have har : a + r ≤ 8 * s.size := by omega
      have HR : Hid _ := hr
      have HA : Hid _ := ha
      have hr64 : r ≤ 64 := by omega
      obtain ⟨b, c, hbc, hc8⟩ : ∃ b c : Nat, a = 8 * b + c ∧ c < 8 := ⟨a / 8, a % 8, by omega, by omega⟩
      have hand : bits BinOp.and IntKind.i64 (a : Int) 7 = (c : Int) := by rw [i64_and7]; omega
      have hdiv : (a : Int) / 8 = (b : Int) := by omega
      have hbs : b < s.size := by omega
      have HBC : Hid _ := hbc
      clear hr ha h hk hj hlt hbc
      have c2 := hR.c2
      by_cases hrc : (r : Int) < 8 - (c : Int)
      · go_wp2_with (go_at_call 30; refine (passed_spec q s a wr hR).mono ?_; rintro e w' ⟨rfl, rfl⟩)
        go_quiet ((go_at_call 30; exact Calls.quiet_of_same (passed_spec q s a _ hR)))
        go_wp2
        go_quiet (fail)
        rw [take_part s at_ j r b c (by rw [← HA.out, HBC.out]) hbs (by omega) hc8 (by have := HR.out; omega)]
        clear hand hdiv c2
        go_wp2_with (go_at_call 48; refine (pass_spec q s hs a r (by omega) _ (hR.drewN _)).mono ?_; rintro e w2 ⟨rfl, hR2, hS2⟩)
        go_roundw
        case rel =>
          have e1 := HR.out
          have e2 := HA.out
          refine ⟨j + r, by omega, ?_, rfl, ?_, ?_⟩
          · rw [show k - (j + r) = 0 from by omega]; go_num
          · rw [← Nat.add_assoc, ← e2]; exact hR2
          · exact (hS.drewN _).trans hS2 (fun _ _ h => h)
        case measure => simp [intOf]; omega
      · go_wp2_with (go_at_call 30; refine (passed_spec q s a wr hR).mono ?_; rintro e w' ⟨rfl, rfl⟩)
        go_quiet ((go_at_call 30; exact Calls.quiet_of_same (passed_spec q s a _ hR)))
        go_wp2
        go_quiet (fail)
        have htp := take_part s at_ j (8 - c) b c (by rw [← HA.out, HBC.out]) hbs (by omega) hc8 (by have := HR.out; omega)
        rw [Nat.sub_self, Int.pow_zero, Int.ediv_one] at htp
        rw [htp]
        clear hand hdiv c2 htp
        obtain ⟨d, hd⟩ : ∃ d : Nat, d = 8 - c := ⟨_, rfl⟩
        have hdi : (8 : Int) - (c : Int) = (d : Int) := by omega
        rw [hdi, ← hd]
        have hdr : d ≤ r := by omega
        have hd0 : 0 < d := by omega
        have HD : Hid _ := hd
        clear hd hdi hrc
        go_wp2_with (go_at_call 48; refine (pass_spec q s hs a d (by omega) _ (hR.drewN _)).mono ?_; rintro e w2 ⟨rfl, hR2, hS2⟩)
        go_roundw
        case rel =>
          have e1 := HR.out
          have e2 := HA.out
          refine ⟨j + d, by omega, ?_, rfl, ?_, ?_⟩
          · rw [show k - (j + d) = r - d from by omega]; go_num
          · rw [← Nat.add_assoc, ← e2]; exact hR2
          · exact (hS.drewN _).trans hS2 (fun _ _ h => h)
        case measure => simp [intOf]; omega
    · obtain rfl : j = k := by omega
      rw [Nat.sub_self]
      go_wp2
      go_ret
      exact ⟨rfl, hR, hS⟩
end Go.Proofs.Ytkhdkmdiblomhaa

namespace Go.Proofs.Ytkhdkmdiblomhaa
open Go.RowKit
set_option linter.unusedSimpArgs false
set_option linter.unusedVariables false


theorem ret_int {k : IntKind} {a b : Int} (h : a = b) : Ending.returned (.int k a) = .returned (.int k b) := by rw [h]

/-- Twice n, or twice -n less 1. -/
def foldN (n : Int) : Nat := if 0 ≤ n then (2 * n).toNat else (-(2 * n) - 1).toNat

theorem foldN_pos (n : Int) (h : 0 ≤ n) : (foldN n : Int) = 2 * n := by unfold foldN; rw [if_pos h]; omega
theorem foldN_neg (n : Int) (h : n < 0) : (foldN n : Int) = -(2 * n) - 1 := by unfold foldN; rw [if_neg (by omega)]; omega
theorem foldN_lt (n : Int) (h1 : -9223372036854775808 ≤ n) (h2 : n ≤ 9223372036854775807) : foldN n < 18446744073709551616 := by
  by_cases h : 0 ≤ n
  · have := foldN_pos n h; omega
  · have := foldN_neg n (by omega); omega

theorem xor_ones (x : Nat) (h : x < 18446744073709551616) : x ^^^ 18446744073709551615 = 18446744073709551615 - x := by
  apply Nat.eq_of_testBit_eq
  intro i
  have e : (18446744073709551615 : Nat) - x = 2 ^ 64 - (x + 1) := by omega
  rw [e, Nat.testBit_two_pow_sub_succ (by omega), Nat.testBit_xor, show (18446744073709551615 : Nat) = 2 ^ 64 - 1 from rfl, Nat.testBit_two_pow_sub_one]
  by_cases hi : i < 64
  · simp [hi]
  · have : x.testBit i = false := Nat.testBit_lt_two_pow (Nat.lt_of_lt_of_le h (Nat.pow_le_pow_right (n := 2) (by decide) (show 64 ≤ i by omega)))
    simp [hi, this]

theorem folded_spec (n : Int) (h1 : -9223372036854775808 ≤ n) (h2 : n ≤ 9223372036854775807) (w : World) :
    Calls Try.prog 94 #[.int .i64 n] w fun e w' => e = .returned (.int .u64 (foldN n : Int)) ∧ w' = w := by
  by_cases h0 : 0 ≤ n
  · go_enter Try.func94, Try.ntmps94
    go_wp2
    go_ret
    refine ⟨ret_int ?_, rfl⟩
    rw [foldN_pos n h0, show n / 9223372036854775808 = ((0 : Nat) : Int) from by omega, show n * 2 = (((2 * n).toNat : Nat) : Int) from by omega, u64_xor_nat _ _ (by omega) (by omega), Nat.xor_zero]
    omega
  · go_enter Try.func94, Try.ntmps94
    go_wp2
    go_ret
    refine ⟨ret_int ?_, rfl⟩
    have e1 : IntKind.u64.wrap (IntKind.u64.wrap n * 2) = (((18446744073709551616 + 2 * n).toNat : Nat) : Int) := by
      rw [IntKind.wrap_u64, IntKind.wrap_u64]; omega
    have e2 : IntKind.u64.wrap (n / 9223372036854775808) = ((18446744073709551615 : Nat) : Int) := by
      rw [IntKind.wrap_u64]; omega
    rw [foldN_neg n (by omega), e1, e2, u64_xor_nat _ _ (by omega) (by omega), xor_ones _ (by omega)]
    omega

theorem rice_none (n k : Int) (w : World) : Calls Try.prog 81 #[.pointer none, .int .i64 n, .int .i64 k] w fun e w' => e = .returned (.int .i64 1) ∧ w' = w := by
  go_enter Try.func81, Try.ntmps81
  go_wp2
  go_ret
  exact ⟨rfl, rfl⟩

theorem rice_width (p : Nat) (n k : Int) (hk : k < 0 ∨ 30 < k) (w : World) : Calls Try.prog 81 #[.pointer (some ⟨p, 0, none⟩), .int .i64 n, .int .i64 k] w fun e w' => e = .returned (.int .i64 11) ∧ w' = w := by
  rcases hk with hk | hk
  · go_enter Try.func81, Try.ntmps81
    go_wp2
    go_ret
    exact ⟨rfl, rfl⟩
  · go_enter Try.func81, Try.ntmps81
    go_wp2
    go_ret
    exact ⟨rfl, rfl⟩

theorem div_cast (x k : Nat) : (x : Int) / 2 ^ k = ((x / 2 ^ k : Nat) : Int) := by simp

theorem rice_long (p : Nat) (n : Int) (h1 : -9223372036854775808 ≤ n) (h2 : n ≤ 9223372036854775807) (k : Nat) (hk : k ≤ 30) (hl : 16777216 < foldN n / 2 ^ k) (w : World) :
    Calls Try.prog 81 #[.pointer (some ⟨p, 0, none⟩), .int .i64 n, .int .i64 (k : Int)] w fun e w' => e = .returned (.int .i64 11) ∧ w' = w := by
  have hq : (16777216 : Int) < (foldN n : Int) / 2 ^ k := by rw [div_cast]; omega
  go_enter Try.func81, Try.ntmps81
  go_wp2_with (go_at_call 94; refine (folded_spec n h1 h2 w).mono ?_; rintro e w' ⟨rfl, rfl⟩)
  go_ret
  exact ⟨rfl, rfl⟩

theorem rice_ok (p : Nat) (n : Int) (h1 : -9223372036854775808 ≤ n) (h2 : n ≤ 9223372036854775807) (k : Nat) (hk : k ≤ 30) (hl : foldN n / 2 ^ k ≤ 16777216)
    (w : World) (ao : Option Addr) (B : List Nat) (h01 : Bits01 B) (hB : B.length ≤ 9000000000000) (hw : WrB w p ao B) :
    Calls Try.prog 81 #[.pointer (some ⟨p, 0, none⟩), .int .i64 n, .int .i64 (k : Int)] w fun e w' =>
      e = .returned (.int .i64 0) ∧ ∃ ao', WrB w' p ao' (B ++ List.replicate (foldN n / 2 ^ k) 0 ++ [1] ++ bitsOf (foldN n) k) ∧ Stays (foot p ao) w w' ∧ Moved w.heap.size ao ao' := by
  obtain ⟨q, hq⟩ : ∃ q, q = foldN n / 2 ^ k := ⟨_, rfl⟩
  have hqi : (foldN n : Int) / 2 ^ k = (q : Int) := by rw [div_cast, hq]
  rw [← hq] at hl ⊢
  have hf := foldN_lt n h1 h2
  have HQ : Hid _ := hq
  clear hq
  go_enter Try.func81, Try.ntmps81
  go_wp2_with (first | (go_at_call 94; refine (folded_spec n h1 h2 w).mono ?_; rintro e w' ⟨rfl, rfl⟩) | (go_at_call 55; refine (unary_spec p q hl _ ao B h01 hB hw).mono ?_; rintro e w1 ⟨rfl, ao1, hw1, hs1, hm1⟩))
  have h01' : Bits01 (B ++ List.replicate q 0 ++ [1]) := (h01.append (Bits01.zeros q)).append (by intro b hb; simp at hb; omega)
  have hB' : (B ++ List.replicate q 0 ++ [1]).length ≤ 10000000000000 := by simp; omega
  refine (put_spec p (foldN n) k hf (by omega) _ ao1 _ h01' hB' hw1).mono ?_
  rintro e w2 ⟨rfl, ao2, hw2, hs2, hm2⟩
  go_wp2
  go_ret
  exact ⟨rfl, ao2, hw2, hs1.foot hs2 hm1, hm1.trans hm2 hs1.size⟩
end Go.Proofs.Ytkhdkmdiblomhaa

namespace Go.Proofs.Ytkhdkmdiblomhaa
open Go.RowKit
set_option linter.unusedSimpArgs false
set_option linter.unusedVariables false


/-- How many bits 0 stand ahead. -/
def lead (L : List Nat) : Nat := (L.takeWhile (· == 0)).length

theorem lead_le (L : List Nat) : lead L ≤ L.length := by
  unfold lead
  exact (List.takeWhile_sublist _).length_le

theorem lead_cons (x : Nat) (t : List Nat) : lead (x :: t) = if x = 0 then 1 + lead t else 0 := by
  unfold lead
  rw [List.takeWhile_cons]
  by_cases h : x = 0
  · simp [h, Nat.add_comm]
  · simp [h]

theorem lead_append (A B : List Nat) : lead (A ++ B) = if lead A < A.length then lead A else A.length + lead B := by
  induction A with
  | nil => simp [lead]
  | cons x t ih =>
    rw [List.cons_append, lead_cons, lead_cons, ih, List.length_cons]
    by_cases hx : x = 0
    · simp only [hx, if_true]
      by_cases h : lead t < t.length
      · rw [if_pos h, if_pos (by omega)]
      · rw [if_neg h, if_neg (by omega)]; omega
    · simp [hx]

theorem lead_byte_all : ∀ b : Fin 256, ∀ c : Fin 8, lead (bitsOf b.val (8 - c.val)) = min (8 - bitLen (b.val * 2 ^ c.val % 256)) (8 - c.val) := by decide +kernel

theorem lead_byte (b c : Nat) (hb : b < 256) (hc : c < 8) : lead (bitsOf b (8 - c)) = min (8 - bitLen (b * 2 ^ c % 256)) (8 - c) := lead_byte_all ⟨b, hb⟩ ⟨c, hc⟩

theorem sbits_rest (l : List Nat) (b c : Nat) (hb : b < l.length) (hc : c < 8) : (sbits l).drop (8 * b + c) = bitsOf l[b] (8 - c) ++ (sbits l).drop (8 * b + c + (8 - c)) := by
  have h2 : bitsOf l[b] 8 = bitsOf (l[b] / 2 ^ (8 - c)) c ++ bitsOf l[b] (8 - c) := by
    have := bitsOf_add l[b] c (8 - c)
    rwa [show c + (8 - c) = 8 from by omega] at this
  rw [← List.drop_drop, sbits_drop l b hb, h2, List.append_assoc, List.drop_append, List.drop_eq_nil_of_le (by rw [bitsOf_length]; omega), bitsOf_length, Nat.sub_self, List.drop_zero, List.nil_append,
    show 8 * b + c + (8 - c) = 8 * (b + 1) from by omega]

/-- The bits from a place on. -/
def ahead (s : ByteArray) (at_ : Nat) : List Nat := (sbits (bytesOf s)).drop at_

theorem ahead_length (s : ByteArray) (at_ : Nat) : (ahead s at_).length = 8 * s.size - at_ := by
  unfold ahead
  rw [List.length_drop, sbits_length, bytesOf_length]

theorem ahead_byte (s : ByteArray) (b c : Nat) (hb : b < s.size) (hc : c < 8) : ahead s (8 * b + c) = bitsOf (s[b]'hb).toNat (8 - c) ++ ahead s (8 * b + c + (8 - c)) := by
  unfold ahead
  rw [sbits_rest (bytesOf s) b c (by rw [bytesOf_length]; exact hb) hc, bytesOf_get s b hb]

/-- One byte's look. -/
theorem lead_ahead (s : ByteArray) (b c : Nat) (hb : b < s.size) (hc : c < 8) :
    lead (ahead s (8 * b + c)) = if 8 - bitLen ((s[b]'hb).toNat * 2 ^ c % 256) < 8 - c then 8 - bitLen ((s[b]'hb).toNat * 2 ^ c % 256) else (8 - c) + lead (ahead s (8 * b + c + (8 - c))) := by
  rw [ahead_byte s b c hb hc, lead_append, lead_byte _ c (UInt8.toNat_lt _) hc, bitsOf_length]
  by_cases h : 8 - bitLen ((s[b]'hb).toNat * 2 ^ c % 256) < 8 - c
  · rw [if_pos h, if_pos (by omega)]; omega
  · rw [if_neg h, if_neg (by omega)]

set_option maxRecDepth 100000 in
theorem len8_spec (x : Nat) (hx : x < 256) (w : World) : Calls Try.prog 99 #[.int .u8 (x : Int)] w fun e w' => e = .returned (.int .i64 (bitLen x : Int)) ∧ w' = w := by
  go_enter Try.func99, Try.ntmps99
  go_wp2
  go_ret
  refine ⟨ret_int ?_, rfl⟩
  rw [len8tab_get x]
  have := bitLen_le8 x hx
  unfold wrap64
  omega

theorem lz8_spec (x : Nat) (hx : x < 256) (w : World) : Calls Try.prog 95 #[.int .u8 (x : Int)] w fun e w' => e = .returned (.int .i64 ((8 - bitLen x : Nat) : Int)) ∧ w' = w := by
  have hb := bitLen_le8 x hx
  go_enter Try.func95, Try.ntmps95
  go_wp2_with (go_at_call 99; refine (len8_spec x hx w).mono ?_; rintro e w' ⟨rfl, rfl⟩)
  go_ret
  refine ⟨ret_int ?_, rfl⟩
  omega

set_option maxRecDepth 20000 in
set_option maxHeartbeats 800000 in
/-- 'zeros': how many, or some beyond the limit. -/
theorem zeros_spec (q : Nat) (s : ByteArray) (hs : s.size ≤ 1000000000000000000) (at_ : Nat) (ha : at_ ≤ 8 * s.size) (w : World) (h : Rd w q s at_) :
    Calls Try.prog 82 #[.pointer (some ⟨q, 0, none⟩)] w fun e w' => ∃ m : Nat, e = .returned (.int .i64 (m : Int)) ∧ m ≤ lead (ahead s at_) ∧ (m = lead (ahead s at_) ∨ 16777216 < m) ∧ ∃ n, w' = w.drewN n := by
  go_enter Try.func82, Try.ntmps82
  go_wp2
  go_loopw [3] (fun t wr => ∃ (j : Nat), at_ + j ≤ 8 * s.size ∧ t = .int .i64 (j : Int) ∧ lead (ahead s at_) = j + lead (ahead s (at_ + j)) ∧ ∃ n, wr = w.drewN n) (fun t _ => 8 * s.size - (intOf t).toNat)
  case atStart => exact ⟨0, by omega, rfl, by simp, 0, rfl⟩
  case round =>
    obtain ⟨j, hj, rfl, hlead, nd, rfl⟩ := hrel
    have HL : Hid _ := hlead
    clear hlead
    have hR := h.drewN nd
    by_cases h24 : (j : Int) ≤ 16777216
    · by_cases hlt : (j : Int) < 8 * (s.size : Int) - (at_ : Int)
      · obtain ⟨a, hadef⟩ : ∃ a, a = at_ + j := ⟨_, rfl⟩
        obtain ⟨b, c, hbc, hc8⟩ : ∃ b c : Nat, a = 8 * b + c ∧ c < 8 := ⟨a / 8, a % 8, by omega, by omega⟩
        have hand : bits BinOp.and IntKind.i64 ((at_ : Int) + (j : Int)) 7 = (c : Int) := by rw [i64_and7]; omega
        have hdiv : ((at_ : Int) + (j : Int)) / 8 = (b : Int) := by omega
        have hbs : b < s.size := by omega
        have c2 := h.c2
        have HA : Hid _ := hadef
        have HB : Hid _ := hbc
        clear hadef hbc
        go_wp2_with (first | (go_at_call 31; refine (rest_spec q s hs at_ ha _ hR).mono ?_; rintro e w' ⟨rfl, n1, rfl⟩) | (go_at_call 30; refine (passed_spec q s at_ _ (h.drewN _)).mono ?_; rintro e w' ⟨rfl, rfl⟩))
        have ex : (((s[b]'hbs).toNat : Nat) : Int) * 2 ^ (8 - (8 - c)) % 256 = (((s[b]'hbs).toNat * 2 ^ c % 256 : Nat) : Int) := by
          rw [show 8 - (8 - c) = c from by omega]
          simp
        rw [ex]
        have hla := lead_ahead s b c hbs hc8
        obtain ⟨z, hz⟩ : ∃ z, z = 8 - bitLen ((s[b]'hbs).toNat * 2 ^ c % 256) := ⟨_, rfl⟩
        rw [← hz] at hla
        refine (lz8_spec _ (Nat.mod_lt _ (by decide)) _).mono ?_
        rintro e w' ⟨rfl, rfl⟩
        rw [← hz]
        have HLA : Hid _ := hla
        have hz8 : z ≤ 8 := by omega
        clear ex hla hz hand hdiv c2
        by_cases hzc : (z : Int) < 8 - (c : Int)
        · go_wp2
          go_ret
          have e1 := HL.out
          have e2 := HLA.out
          rw [← HA.out, HB.out, e2, if_pos (by omega)] at e1
          refine ⟨j + z, ret_int (by omega), by omega, .inl e1.symm, _, rfl⟩
        · go_wp2
          go_roundw
          case rel =>
            have e1 := HL.out
            have e2 := HLA.out
            have e3 := HA.out
            have e4 := HB.out
            rw [← e3, e4, e2, if_neg (by omega)] at e1
            refine ⟨j + (8 - c), by omega, by go_num, ?_, _, rfl⟩
            rw [e1, show at_ + (j + (8 - c)) = 8 * b + c + (8 - c) from by omega]
            omega
          case measure => simp [intOf]; omega
      · have hd : decide ((j : Int) < 8 * (s.size : Int) - (at_ : Int)) = false := by simp; omega
        go_wp2_with (go_at_call 31; refine (rest_spec q s hs at_ ha _ hR).mono ?_; rintro e w' ⟨rfl, n1, rfl⟩)
        go_ret
        have e1 := HL.out
        have e2 := lead_le (ahead s (at_ + j))
        rw [ahead_length] at e2
        exact ⟨j, rfl, by omega, .inl (by omega), _, rfl⟩
    · go_wp2
      go_ret
      have e1 := HL.out
      exact ⟨j, rfl, by omega, .inr (by omega), _, rfl⟩
end Go.Proofs.Ytkhdkmdiblomhaa

namespace Go.Proofs.Ytkhdkmdiblomhaa
open Go.RowKit
set_option linter.unusedSimpArgs false
set_option linter.unusedVariables false


theorem get_none (k : Int) (w : World) : Calls Try.prog 17 #[.pointer none, .int .i64 k] w fun e w' => e = .returned (.tuple #[.int .u64 0, .int .i64 1]) ∧ w' = w := by
  go_enter Try.func17, Try.ntmps17
  go_wp2
  go_ret2
  exact ⟨rfl, rfl⟩

theorem get_width (q : Nat) (k : Int) (hk : k < 0 ∨ 64 < k) (w : World) : Calls Try.prog 17 #[.pointer (some ⟨q, 0, none⟩), .int .i64 k] w fun e w' => e = .returned (.tuple #[.int .u64 0, .int .i64 11]) ∧ w' = w := by
  rcases hk with hk | hk
  · go_enter Try.func17, Try.ntmps17
    go_wp2
    go_ret2
    exact ⟨rfl, rfl⟩
  · go_enter Try.func17, Try.ntmps17
    go_wp2
    go_ret2
    exact ⟨rfl, rfl⟩

theorem get_end (q : Nat) (s : ByteArray) (hs : s.size ≤ 1000000000000000000) (at_ : Nat) (ha : at_ ≤ 8 * s.size) (k : Nat) (hk : k ≤ 64) (he : 8 * s.size < at_ + k) (w : World) (h : Rd w q s at_) :
    Calls Try.prog 17 #[.pointer (some ⟨q, 0, none⟩), .int .i64 (k : Int)] w fun e w' => e = .returned (.tuple #[.int .u64 0, .int .i64 10]) ∧ ∃ n, w' = w.drewN n := by
  go_enter Try.func17, Try.ntmps17
  go_wp2_with (go_at_call 31; refine (rest_spec q s hs at_ ha _ h).mono ?_; rintro e w' ⟨rfl, n1, rfl⟩)
  go_ret2
  exact ⟨rfl, _, rfl⟩

theorem get_ok (q : Nat) (s : ByteArray) (hs : s.size ≤ 1000000000000000000) (at_ : Nat) (k : Nat) (hk : k ≤ 64) (he : at_ + k ≤ 8 * s.size) (w : World) (h : Rd w q s at_) :
    Calls Try.prog 17 #[.pointer (some ⟨q, 0, none⟩), .int .i64 (k : Int)] w fun e w' => e = .returned (.tuple #[.int .u64 (bitsAt s at_ k : Int), .int .i64 0]) ∧ Rd w' q s (at_ + k) ∧ Stays (only q) w w' := by
  go_enter Try.func17, Try.ntmps17
  go_wp2_with (first | (go_at_call 31; refine (rest_spec q s hs at_ (by omega) _ h).mono ?_; rintro e w' ⟨rfl, n1, rfl⟩) | (go_at_call 32; refine (take_spec q s hs at_ k he hk _ (h.drewN _)).mono ?_; rintro e w2 ⟨rfl, hR2, hS2⟩))
  go_ret2
  exact ⟨rfl, hR2, ((Stays.refl _ _).drewN n1).trans hS2 (fun _ _ h => h)⟩

theorem signed_none (k : Int) (w : World) : Calls Try.prog 66 #[.pointer none, .int .i64 k] w fun e w' => e = .returned (.tuple #[.int .i64 0, .int .i64 1]) ∧ w' = w := by
  go_enter Try.func66, Try.ntmps66
  go_wp2
  go_ret2
  exact ⟨rfl, rfl⟩

theorem runary_none (w : World) : Calls Try.prog 65 #[.pointer none] w fun e w' => e = .returned (.tuple #[.int .i64 0, .int .i64 1]) ∧ w' = w := by
  go_enter Try.func65, Try.ntmps65
  go_wp2
  go_ret2
  exact ⟨rfl, rfl⟩

theorem runary_width (q : Nat) (s : ByteArray) (hs : s.size ≤ 1000000000000000000) (at_ : Nat) (ha : at_ ≤ 8 * s.size) (hl : 16777216 < lead (ahead s at_)) (w : World) (h : Rd w q s at_) :
    Calls Try.prog 65 #[.pointer (some ⟨q, 0, none⟩)] w fun e w' => e = .returned (.tuple #[.int .i64 0, .int .i64 11]) ∧ ∃ n, w' = w.drewN n := by
  go_enter Try.func65, Try.ntmps65
  go_wp2_with (go_at_call 82; refine (zeros_spec q s hs at_ ha _ h).mono ?_; rintro e w' ⟨m, rfl, hm1, hm2, n1, rfl⟩; have hm : 16777216 < m := (by omega); clear hm1 hm2)
  go_ret2
  exact ⟨rfl, _, rfl⟩

theorem runary_end (q : Nat) (s : ByteArray) (hs : s.size ≤ 1000000000000000000) (at_ : Nat) (ha : at_ ≤ 8 * s.size) (hl : lead (ahead s at_) ≤ 16777216) (he : lead (ahead s at_) = 8 * s.size - at_) (w : World) (h : Rd w q s at_) :
    Calls Try.prog 65 #[.pointer (some ⟨q, 0, none⟩)] w fun e w' => e = .returned (.tuple #[.int .i64 0, .int .i64 10]) ∧ ∃ n, w' = w.drewN n := by
  go_enter Try.func65, Try.ntmps65
  go_wp2_with (first | (go_at_call 82; refine (zeros_spec q s hs at_ ha _ h).mono ?_; rintro e w' ⟨m, rfl, hm1, hm2, n1, rfl⟩; have hm : ((m : Int) == 8 * (s.size : Int) - (at_ : Int)) = true := (by simp; omega); have hm3 : m ≤ 16777216 := (by omega); clear hm1 hm2 hl he) | (go_at_call 31; refine (rest_spec q s hs at_ ha _ (h.drewN _)).mono ?_; rintro e w' ⟨rfl, n2, rfl⟩))
  go_ret2
  exact ⟨rfl, _, rfl⟩

theorem runary_ok (q : Nat) (s : ByteArray) (hs : s.size ≤ 1000000000000000000) (at_ : Nat) (ha : at_ ≤ 8 * s.size) (z : Nat) (hz : lead (ahead s at_) = z) (hl : z ≤ 16777216) (he : z < 8 * s.size - at_) (w : World) (h : Rd w q s at_) :
    Calls Try.prog 65 #[.pointer (some ⟨q, 0, none⟩)] w fun e w' => e = .returned (.tuple #[.int .i64 (z : Int), .int .i64 0]) ∧ Rd w' q s (at_ + z + 1) ∧ Stays (only q) w w' := by
  have HZ : Hid _ := hz
  clear hz
  have hne : ((z : Int) == 8 * (s.size : Int) - (at_ : Int)) = false := by simp; omega
  go_enter Try.func65, Try.ntmps65
  go_wp2_with (first | (go_at_call 82; refine (zeros_spec q s hs at_ ha _ h).mono ?_; rintro e w' ⟨m, rfl, hm1, hm2, n1, rfl⟩; rw [HZ.out] at hm1 hm2; obtain rfl : m = z := (by omega); clear hm1 hm2) | (go_at_call 31; refine (rest_spec q s hs at_ ha _ (h.drewN _)).mono ?_; rintro e w' ⟨rfl, n2, rfl⟩))
  rw [show (m : Int) + 1 = ((m + 1 : Nat) : Int) from by omega]
  refine (pass_spec q s hs at_ (m + 1) (by omega) _ (h.drewN _)).mono ?_
  rintro e w2 ⟨rfl, hR2, hS2⟩
  go_wp2
  go_ret2
  exact ⟨rfl, hR2, ((Stays.refl _ _).drewN _).trans hS2 (fun _ _ h => h)⟩

theorem rrice_none (k : Int) (w : World) : Calls Try.prog 100 #[.pointer none, .int .i64 k] w fun e w' => e = .returned (.tuple #[.int .i64 0, .int .i64 1]) ∧ w' = w := by
  go_enter Try.func100, Try.ntmps100
  go_wp2
  go_ret2
  exact ⟨rfl, rfl⟩

theorem at_none (w : World) : Calls Try.prog 16 #[.pointer none] w fun e w' => e = .returned (.int .i64 0) ∧ w' = w := by
  go_enter Try.func16, Try.ntmps16
  go_wp2
  go_ret
  exact ⟨rfl, rfl⟩

theorem wsigned_none (n k : Int) (w : World) : Calls Try.prog 56 #[.pointer none, .int .i64 n, .int .i64 k] w fun e w' => e = .returned (.int .i64 1) ∧ w' = w := by
  go_enter Try.func56, Try.ntmps56
  go_wp2
  go_ret
  exact ⟨rfl, rfl⟩

theorem wunary_none (n : Int) (w : World) : Calls Try.prog 36 #[.pointer none, .int .i64 n] w fun e w' => e = .returned (.int .i64 1) ∧ w' = w := by
  go_enter Try.func36, Try.ntmps36
  go_wp2
  go_ret
  exact ⟨rfl, rfl⟩
end Go.Proofs.Ytkhdkmdiblomhaa

namespace Go.Proofs.Ytkhdkmdiblomhaa
open Go.RowKit
set_option linter.unusedSimpArgs false
set_option linter.unusedVariables false


theorem Rd.foot {w w' : World} {q p : Nat} {s : ByteArray} {a : Nat} {ao : Option Addr} (h : Rd w q s a) (hS : Stays (foot p ao) w w') (hp : q ≠ p) (hb : ∀ b, blockOf ao = some b → b ≠ q) : Rd w' q s a :=
  h.stays hS (fun hf => by
    rcases hf with hf | hf
    · exact hp hf
    · exact hb q hf rfl)

theorem WrB.only {w w' : World} {p q : Nat} {ao : Option Addr} {B : List Nat} (h : WrB w p ao B) (hS : Stays (only q) w w') (hp : p ≠ q) (hb : ∀ b, blockOf ao = some b → b ≠ q) : WrB w' p ao B :=
  h.stays hS hp hb

theorem WrB.below {w w' : World} {p : Nat} {ao : Option Addr} {B : List Nat} (h : WrB w p ao B) (hS : Below w.heap.size w w') : WrB w' p ao B :=
  h.stays (Stays.of_below hS (fun _ => False)) (fun h => h) (fun _ _ h => h)

theorem Rd.below {w w' : World} {q : Nat} {s : ByteArray} {a : Nat} (h : Rd w q s a) (hS : Below w.heap.size w w') : Rd w' q s a :=
  h.stays (Stays.of_below hS (fun _ => False)) (fun h => h)

theorem foot_below {N p : Nat} {ao : Option Addr} {w w' : World} (h : Stays (foot p ao) w w') (hN : N ≤ w.heap.size) (hp : N ≤ p) (ha : ∀ b, blockOf ao = some b → N ≤ b) : Below N w w' :=
  h.below hN (fun i hi hf => by
    rcases hf with hf | hf
    · omega
    · have := ha i hf; omega)

theorem only_below {N q : Nat} {w w' : World} (h : Stays (only q) w w') (hN : N ≤ w.heap.size) (hq : N ≤ q) : Below N w w' :=
  h.below hN (fun i hi hf => by have : i = q := hf; omega)

theorem moved_ge {N n : Nat} {ao ao' : Option Addr} (h : Moved n ao ao') (hN : N ≤ n) (ha : ∀ b, blockOf ao = some b → N ≤ b) : ∀ b, blockOf ao' = some b → N ≤ b := fun b hb => by
  rcases h b hb with h1 | h1
  · exact ha b h1
  · omega

theorem WrB.drewN {w : World} {p : Nat} {ao : Option Addr} {B : List Nat} (h : WrB w p ao B) (n : Nat) : WrB (w.drewN n) p ao B := by
  obtain ⟨cap, h⟩ := h
  exact ⟨cap, h.drewN n⟩

theorem ret_bool {a b : Bool} (h : a = b) : Ending.returned (.bool a) = .returned (.bool b) := by rw [h]

theorem below_box (w : World) (o : Obj) (n : Nat) : Below w.heap.size w ((w.alloc o).drewN n) := by
  have h := (Below.refl w.heap.size w).alloc (Nat.le_refl _) o
  exact ⟨h.os, h.tape, h.output, h.size, h.block⟩

end Go.Proofs.Ytkhdkmdiblomhaa
