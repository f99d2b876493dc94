/- Own text: a reader of bits in memory, the bits of a text, and the walks of its place's methods. -/
import Derived.Test.YtfmpiidnemhijaaDoorWcalls
namespace Go.Proofs.YtfmpiidnemhijaaDoor
open Go.RowKit
set_option linter.unusedSimpArgs false
set_option linter.unusedVariables false


/-- The bits of bytes. -/
def sbits (l : List Nat) : List Nat := l.flatMap fun b => bitsOf b 8

theorem sbits_length (l : List Nat) : (sbits l).length = 8 * l.length := by
  induction l with
  | nil => rfl
  | cons b t ih =>
    have : sbits (b :: t) = bitsOf b 8 ++ sbits t := rfl
    rw [this, List.length_append, ih, bitsOf_length, List.length_cons]
    omega

theorem sbits_01 (l : List Nat) : Bits01 (sbits l) := by
  intro b hb
  obtain ⟨x, _, hx⟩ := List.mem_flatMap.1 hb
  exact bitsOf_01 x 8 b hx

theorem sbits_drop (l : List Nat) (i : Nat) (h : i < l.length) : (sbits l).drop (8 * i) = bitsOf l[i] 8 ++ (sbits l).drop (8 * (i + 1)) := by
  induction l generalizing i with
  | nil => simp at h
  | cons b t ih =>
    have e : sbits (b :: t) = bitsOf b 8 ++ sbits t := rfl
    cases i with
    | zero =>
      rw [e]
      simp only [Nat.mul_zero, List.drop_zero, List.getElem_cons_zero, Nat.zero_add, Nat.mul_one]
      rw [List.drop_append, List.drop_eq_nil_of_le (by rw [bitsOf_length]; omega), bitsOf_length]
      simp
    | succ i =>
      have h' : i < t.length := by simpa using h
      have hd : ∀ j, (sbits (b :: t)).drop (8 * (j + 1)) = (sbits t).drop (8 * j) := by
        intro j
        rw [e, List.drop_append, List.drop_eq_nil_of_le (by rw [bitsOf_length]; omega), bitsOf_length, List.nil_append]
        congr 1
      rw [hd, hd, ih i h']
      rfl

/-- Bits within one byte. -/
theorem sbits_part (l : List Nat) (at_ part : Nat) (h : at_ / 8 < l.length) (hp : at_ % 8 + part ≤ 8) :
    ((sbits l).drop at_).take part = bitsOf (l[at_ / 8] / 2 ^ (8 - at_ % 8 - part)) part := by
  have e : at_ = 8 * (at_ / 8) + at_ % 8 := by omega
  have h1 : (sbits l).drop at_ = ((sbits l).drop (8 * (at_ / 8))).drop (at_ % 8) := by rw [List.drop_drop, ← e]
  rw [h1, sbits_drop l _ h]
  generalize l[at_ / 8] = b
  generalize hX : (sbits l).drop (8 * (at_ / 8 + 1)) = X
  generalize at_ % 8 = r at *
  have h2 : bitsOf b 8 = bitsOf (b / 2 ^ (8 - r)) r ++ bitsOf b (8 - r) := by
    have := bitsOf_add b r (8 - r)
    rwa [show r + (8 - r) = 8 from by omega] at this
  have h3 : bitsOf b (8 - r) = bitsOf (b / 2 ^ (8 - r - part)) part ++ bitsOf b (8 - r - part) := by
    have := bitsOf_add b part (8 - r - part)
    rwa [show part + (8 - r - part) = 8 - r from by omega] at this
  rw [h2, List.append_assoc, List.drop_append, List.drop_eq_nil_of_le (by rw [bitsOf_length]; omega), bitsOf_length, Nat.sub_self, List.drop_zero, List.nil_append, h3, List.append_assoc, List.take_append,
    List.take_of_length_le (by rw [bitsOf_length]; omega), bitsOf_length, Nat.sub_self, List.take_zero, List.append_nil]

/-- A text's bytes as numbers. -/
def bytesOf (s : ByteArray) : List Nat := s.data.toList.map UInt8.toNat

theorem bytesOf_length (s : ByteArray) : (bytesOf s).length = s.size := by
  unfold bytesOf
  rw [List.length_map]
  rfl
theorem bytesOf_get (s : ByteArray) (i : Nat) (h : i < s.size) : (bytesOf s)[i]'(by rw [bytesOf_length]; exact h) = (s[i]'h).toNat := by
  unfold bytesOf
  rw [List.getElem_map]
  rfl
theorem bytesOf_lt (s : ByteArray) : ∀ b ∈ bytesOf s, b < 256 := by
  intro b hb
  obtain ⟨x, _, rfl⟩ := List.mem_map.1 hb
  exact x.toNat_lt

/-- The number in the next k bits. -/
def bitsAt (s : ByteArray) (at_ k : Nat) : Nat := num (((sbits (bytesOf s)).drop at_).take k)

theorem bitsAt_zero (s : ByteArray) (at_ : Nat) : bitsAt s at_ 0 = 0 := by simp [bitsAt, num]

theorem bitsAt_lt (s : ByteArray) (at_ k : Nat) : bitsAt s at_ k < 2 ^ k := by
  have h := num_lt _ (((sbits_01 (bytesOf s)).drop at_).take k)
  refine Nat.lt_of_lt_of_le h (pow_le_of _ _ ?_)
  rw [List.length_take]
  omega

theorem bitsAt_add (s : ByteArray) (at_ j t : Nat) (h : at_ + j + t ≤ 8 * s.size) : bitsAt s at_ (j + t) = bitsAt s at_ j * 2 ^ t + bitsAt s (at_ + j) t := by
  unfold bitsAt
  rw [List.take_add, num_append, List.drop_drop]
  congr 3
  rw [List.length_take, List.length_drop, sbits_length, bytesOf_length]
  omega

theorem bitsAt_byte (s : ByteArray) (b c t : Nat) (hb : b < s.size) (h : c + t ≤ 8) (hc : c < 8) : bitsAt s (8 * b + c) t = (s[b]'hb).toNat / 2 ^ (8 - c - t) % 2 ^ t := by
  have e1 : (8 * b + c) / 8 = b := by omega
  have e2 : (8 * b + c) % 8 = c := by omega
  unfold bitsAt
  rw [sbits_part (bytesOf s) (8 * b + c) t (by rw [bytesOf_length, e1]; exact hb) (by omega), num_bitsOf]
  simp only [e1, e2, bytesOf_get s b hb]

theorem take_part (s : ByteArray) (at_ j t b c : Nat) (ha : at_ + j = 8 * b + c) (hb : b < s.size) (h : c + t ≤ 8) (hc : c < 8) (hj : j + t ≤ 64) :
    bits BinOp.or IntKind.u64 (IntKind.u64.wrap ((bitsAt s at_ j : Int) * 2 ^ t)) (bits BinOp.and IntKind.u64 (IntKind.u64.wrap (((s[b]'hb).toNat : Nat) : Int) / 2 ^ (8 - c - t)) (IntKind.u64.wrap (IntKind.u64.wrap (2 ^ t) - 1)))
      = (bitsAt s at_ (j + t) : Int) := by
  have h0 := bitsAt_lt s at_ j
  have hm : bitsAt s at_ j * 2 ^ t < 2 ^ j * 2 ^ t := Nat.mul_lt_mul_of_pos_right h0 (Nat.two_pow_pos t)
  rw [← Nat.pow_add] at hm
  have h64 : (2 : Nat) ^ (j + t) ≤ 2 ^ 64 := pow_le_of _ 64 hj
  have hx : (s[b]'hb).toNat < 256 := UInt8.toNat_lt _
  have hd : (s[b]'hb).toNat / 2 ^ (8 - c - t) ≤ (s[b]'hb).toNat := Nat.div_le_self _ _
  have ew : IntKind.u64.wrap (((s[b]'hb).toNat : Nat) : Int) / 2 ^ (8 - c - t) = (((s[b]'hb).toNat / 2 ^ (8 - c - t) : Nat) : Int) := by
    have : IntKind.u64.wrap (((s[b]'hb).toNat : Nat) : Int) = (((s[b]'hb).toNat : Nat) : Int) := by rw [IntKind.wrap_u64]; omega
    rw [this]
    simp
  rw [ew, or_u64 _ _ t (by omega) (by omega) (by omega), bitsAt_add s at_ j t (by omega), ha, bitsAt_byte s b c t hb h hc]

/-- A reader at block q. -/
def Rd (w : World) (q : Nat) (s : ByteArray) (at_ : Nat) : Prop := w.heap[q]? = some (.cells #[.int .i64 (at_ : Int), .int .i64 (8 * (s.size : Int)), .string s] 110 (0, 0))

section
variable {w : World} {q : Nat} {s : ByteArray} {at_ : Nat}
theorem Rd.c0 (h : Rd w q s at_) : w.cell? ⟨q, 0, none⟩ = some (.int .i64 (at_ : Int)) := by unfold Rd at h; simp [World.cell?, h]
theorem Rd.c1 (h : Rd w q s at_) : w.cell? ⟨q, 1, none⟩ = some (.int .i64 (8 * (s.size : Int))) := by unfold Rd at h; simp [World.cell?, h]
theorem Rd.c2 (h : Rd w q s at_) : w.cell? ⟨q, 2, none⟩ = some (.string s) := by unfold Rd at h; simp [World.cell?, h]
theorem Rd.f (h : Rd w q s at_) (o : Nat) : w.frozen? ⟨q, o, none⟩ = false := by unfold Rd at h; simp [World.frozen?, h]
theorem Rd.lt (h : Rd w q s at_) : q < w.heap.size := lt_of_block h
theorem Rd.drewN (h : Rd w q s at_) (n : Nat) : Rd (w.drewN n) q s at_ := h
theorem Rd.set (h : Rd w q s at_) (x : Nat) : Rd (w.setCell ⟨q, 0, none⟩ (.int .i64 (x : Int))) q s x := by
  unfold Rd at h ⊢
  rw [block_setCell w q 0 _ _ _ h]
  simp
theorem Rd.stays {w' : World} (h : Rd w q s at_) {S : Nat → Prop} (hS : Stays S w w') (hq : ¬ S q) : Rd w' q s at_ := by
  unfold Rd at h ⊢
  rw [hS.block q (lt_of_block h) hq]
  exact h
end

/-- Only block q may turn. -/
def only (q : Nat) : Nat → Prop := fun k => k = q

theorem of_spec (s : ByteArray) (hs : s.size ≤ 1000000000000000000) (w : World) : Calls Tryd.prog 41 #[.string s] w fun e w' => e = .returned (.pointer (some ⟨w.heap.size, 0, none⟩)) ∧ Rd w' w.heap.size s 0 ∧ Below w.heap.size w w' := by
  go_enter Tryd.func41, Tryd.ntmps41
  go_wp2
  go_ret
  refine ⟨rfl, ?_, (Below.refl _ _).alloc (Nat.le_refl _) _⟩
  unfold Rd
  rw [heap_alloc_new]
  rfl

theorem passed_spec (q : Nat) (s : ByteArray) (at_ : Nat) (w : World) (h : Rd w q s at_) : Calls Tryd.prog 69 #[.pointer (some ⟨q, 0, none⟩)] w fun e w' => e = .returned (.int .i64 (at_ : Int)) ∧ w' = w := by
  have c0 := h.c0
  go_enter Tryd.func69, Tryd.ntmps69
  go_wp2
  go_ret
  exact ⟨rfl, rfl⟩

theorem rest_spec (q : Nat) (s : ByteArray) (hs : s.size ≤ 1000000000000000000) (at_ : Nat) (ha : at_ ≤ 8 * s.size) (w : World) (h : Rd w q s at_) : Calls Tryd.prog 58 #[.pointer (some ⟨q, 0, none⟩)] w fun e w' => e = .returned (.int .i64 (8 * (s.size : Int) - (at_ : Int))) ∧ ∃ n, w' = w.drewN n := by
  have c0 := h.c0
  have c1 := h.c1
  go_enter Tryd.func58, Tryd.ntmps58
  go_wp2
  go_quiet (fail)
  go_wp2
  go_ret
  exact ⟨rfl, _, rfl⟩

theorem pass_spec (q : Nat) (s : ByteArray) (hs : s.size ≤ 1000000000000000000) (at_ k : Nat) (hk : at_ + k ≤ 8 * s.size) (w : World) (h : Rd w q s at_) : Calls Tryd.prog 70 #[.pointer (some ⟨q, 0, none⟩), .int .i64 (k : Int)] w fun e w' => e = .returned (.tuple #[]) ∧ Rd w' q s (at_ + k) ∧ Stays (only q) w w' := by
  have c0 := h.c0
  have f0 := h.f 0
  go_enter Tryd.func70, Tryd.ntmps70
  go_wp2
  go_end0
  refine ⟨rfl, ?_, (Stays.refl _ _).setCell _ _ (.inl rfl)⟩
  have := h.set (at_ + k)
  simpa using this

set_option maxRecDepth 20000 in
set_option maxHeartbeats 800000 in
theorem take_spec (q : Nat) (s : ByteArray) (hs : s.size ≤ 1000000000000000000) (at_ k : Nat) (hk : at_ + k ≤ 8 * s.size) (hk64 : k ≤ 64) (w : World) (h : Rd w q s at_) :
    Calls Tryd.prog 59 #[.pointer (some ⟨q, 0, none⟩), .int .i64 (k : Int)] w fun e w' => e = .returned (.int .u64 (bitsAt s at_ k : Int)) ∧ Rd w' q s (at_ + k) ∧ Stays (only q) w w' := by
  go_enter Tryd.func59, Tryd.ntmps59
  go_wp2
  go_loopw [1, 5] (fun t u wr => ∃ (j : Nat), j ≤ k ∧ t = .int .i64 ((k - j : Nat) : Int) ∧ u = .int .u64 (bitsAt s at_ j : Int) ∧ Rd wr q s (at_ + j) ∧ Stays (only q) w wr) (fun t _ _ => (intOf t).toNat)
  case atStart => exact ⟨0, Nat.zero_le _, rfl, rfl, h, Stays.refl _ _⟩
  case round =>
    obtain ⟨j, hj, rfl, rfl, hR, hS⟩ := hrel
    by_cases hlt : j < k
    · obtain ⟨r, hr⟩ : ∃ r, r = k - j := ⟨_, rfl⟩
      rw [← hr]
      obtain ⟨a, ha⟩ : ∃ a, a = at_ + j := ⟨_, rfl⟩
      rw [← ha] at hR
      have hr0 : 0 < r := by omega
      have har : a + r ≤ 8 * s.size := by omega
      have HR : Hid _ := hr
      have HA : Hid _ := ha
      have hr64 : r ≤ 64 := by omega
      obtain ⟨b, c, hbc, hc8⟩ : ∃ b c : Nat, a = 8 * b + c ∧ c < 8 := ⟨a / 8, a % 8, by omega, by omega⟩
      have hand : bits BinOp.and IntKind.i64 (a : Int) 7 = (c : Int) := by rw [i64_and7]; omega
      have hdiv : (a : Int) / 8 = (b : Int) := by omega
      have hbs : b < s.size := by omega
      have HBC : Hid _ := hbc
      clear hr ha h hk hj hlt hbc
      have c2 := hR.c2
      by_cases hrc : (r : Int) < 8 - (c : Int)
      · go_wp2_with (go_at_call 69; refine (passed_spec q s a wr hR).mono ?_; rintro e w' ⟨rfl, rfl⟩)
        go_quiet ((go_at_call 69; exact Calls.quiet_of_same (passed_spec q s a _ hR)))
        go_wp2
        go_quiet (fail)
        rw [take_part s at_ j r b c (by rw [← HA.out, HBC.out]) hbs (by omega) hc8 (by have := HR.out; omega)]
        clear hand hdiv c2
        go_wp2_with (go_at_call 70; refine (pass_spec q s hs a r (by omega) _ (hR.drewN _)).mono ?_; rintro e w2 ⟨rfl, hR2, hS2⟩)
        go_roundw
        case rel =>
          have e1 := HR.out
          have e2 := HA.out
          refine ⟨j + r, by omega, ?_, rfl, ?_, ?_⟩
          · rw [show k - (j + r) = 0 from by omega]; go_num
          · rw [← Nat.add_assoc, ← e2]; exact hR2
          · exact (hS.drewN _).trans hS2 (fun _ _ h => h)
        case measure => simp [intOf]; omega
      · go_wp2_with (go_at_call 69; refine (passed_spec q s a wr hR).mono ?_; rintro e w' ⟨rfl, rfl⟩)
        go_quiet ((go_at_call 69; exact Calls.quiet_of_same (passed_spec q s a _ hR)))
        go_wp2
        go_quiet (fail)
        have htp := take_part s at_ j (8 - c) b c (by rw [← HA.out, HBC.out]) hbs (by omega) hc8 (by have := HR.out; omega)
        rw [Nat.sub_self, Int.pow_zero, Int.ediv_one] at htp
        rw [htp]
        clear hand hdiv c2 htp
        obtain ⟨d, hd⟩ : ∃ d : Nat, d = 8 - c := ⟨_, rfl⟩
        have hdi : (8 : Int) - (c : Int) = (d : Int) := by omega
        rw [hdi, ← hd]
        have hdr : d ≤ r := by omega
        have hd0 : 0 < d := by omega
        have HD : Hid _ := hd
        clear hd hdi hrc
        go_wp2_with (go_at_call 70; refine (pass_spec q s hs a d (by omega) _ (hR.drewN _)).mono ?_; rintro e w2 ⟨rfl, hR2, hS2⟩)
        go_roundw
        case rel =>
          have e1 := HR.out
          have e2 := HA.out
          refine ⟨j + d, by omega, ?_, rfl, ?_, ?_⟩
          · rw [show k - (j + d) = r - d from by omega]; go_num
          · rw [← Nat.add_assoc, ← e2]; exact hR2
          · exact (hS.drewN _).trans hS2 (fun _ _ h => h)
        case measure => simp [intOf]; omega
    · obtain rfl : j = k := by omega
      rw [Nat.sub_self]
      go_wp2
      go_ret
      exact ⟨rfl, hR, hS⟩
end Go.Proofs.YtfmpiidnemhijaaDoor
