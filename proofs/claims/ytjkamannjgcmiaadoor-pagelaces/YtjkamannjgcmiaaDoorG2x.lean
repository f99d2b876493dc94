/- Own text: numbers as bytes, plainly. plain laws of check sums. -/
import Derived.Test.YtjkamannjgcmiaaDoorG1x
import Derived.WalkKit
import Derived.Laws.Bits64
import Derived.Laws.BitsAllLaws
namespace Go.Proofs.YtjkamannjgcmiaaDoor
open Go.RowKit
set_option linter.unusedSimpArgs false
set_option linter.unusedVariables false
namespace S2

theorem textOf_nil : textOf [] = ⟨#[]⟩ := rfl

theorem textOf_size (l : List Nat) : (textOf l).size = l.length := by
  show (List.toArray _).size = _
  simp

theorem bytesOf_textOf (l : List Nat) (h : ∀ b ∈ l, b < 256) : bytesOf (textOf l) = l := by
  unfold bytesOf textOf
  simp only [List.map_map]
  conv => rhs; rw [← List.map_id l]
  apply List.map_congr_left
  intro b hb
  have := h b hb
  simp only [Function.comp, id, UInt8.toNat_ofNat']
  omega

theorem textOf_bytesOf (s : ByteArray) : textOf (bytesOf s) = s := by
  unfold bytesOf textOf
  rw [List.map_map]
  have e : (s.data.toList.map ((fun b => UInt8.ofNat b) ∘ UInt8.toNat)) = s.data.toList := by
    conv => rhs; rw [← List.map_id s.data.toList]
    apply List.map_congr_left
    intro b _
    simp [Function.comp]
  rw [e]

theorem textOf_inj (a b : List Nat) (ha : ∀ x ∈ a, x < 256) (hb : ∀ x ∈ b, x < 256) (h : textOf a = textOf b) : a = b := by
  have := congrArg bytesOf h
  rwa [bytesOf_textOf a ha, bytesOf_textOf b hb] at this

theorem textOf_append (a b : List Nat) : textOf a ++ textOf b = textOf (a ++ b) := by
  apply ByteArray.ext
  unfold textOf
  simp [ByteArray.data_append]

theorem bytesOf_append (s t : ByteArray) : bytesOf (s ++ t) = bytesOf s ++ bytesOf t := by
  unfold bytesOf
  simp [ByteArray.data_append]

/-- The number that bytes are, the highest first. -/
def val (l : List Nat) : Nat := l.foldl (fun a b => a * 256 + b) 0

theorem val_nil : val [] = 0 := rfl
theorem val_snoc (l : List Nat) (b : Nat) : val (l ++ [b]) = val l * 256 + b := by
  unfold val
  rw [List.foldl_append]
  rfl

theorem foldl_from (l : List Nat) (a : Nat) : l.foldl (fun a b => a * 256 + b) a = a * 256 ^ l.length + val l := by
  induction l generalizing a with
  | nil => simp [val]
  | cons b t ih =>
    have e : val (b :: t) = t.foldl (fun a b => a * 256 + b) b := by simp [val]
    rw [e, List.foldl_cons, ih, ih b, List.length_cons, Nat.pow_succ, Nat.add_mul, Nat.mul_assoc, Nat.mul_comm 256]
    omega

theorem val_cons (b : Nat) (l : List Nat) : val (b :: l) = b * 256 ^ l.length + val l := by
  have e : val (b :: l) = l.foldl (fun a b => a * 256 + b) b := by simp [val]
  rw [e, foldl_from]

theorem val_append (a b : List Nat) : val (a ++ b) = val a * 256 ^ b.length + val b := by
  unfold val
  rw [List.foldl_append, foldl_from]
  rfl

theorem val_lt (l : List Nat) (h : ∀ b ∈ l, b < 256) : val l < 256 ^ l.length := by
  induction l with
  | nil => simp [val]
  | cons b t ih =>
    have hb : b < 256 := h b (by simp)
    have ht := ih (fun x hx => h x (by simp [hx]))
    rw [val_cons, List.length_cons, Nat.pow_succ]
    have : b * 256 ^ t.length ≤ 255 * 256 ^ t.length := Nat.mul_le_mul_right _ (by omega)
    omega

/-- k bytes of n, the lowest first, the highest first. -/
def lowL (n k : Nat) : List Nat := (List.range k).map fun i => n / 256 ^ i % 256
def highL (n k : Nat) : List Nat := (List.range k).map fun j => n / 256 ^ (k - 1 - j) % 256

theorem lowL_length (n k : Nat) : (lowL n k).length = k := by simp [lowL]
theorem highL_length (n k : Nat) : (highL n k).length = k := by simp [highL]
theorem lowL_lt (n k : Nat) : ∀ b ∈ lowL n k, b < 256 := by
  intro b hb
  obtain ⟨i, _, rfl⟩ := List.mem_map.1 hb
  exact Nat.mod_lt _ (by decide)
theorem highL_lt (n k : Nat) : ∀ b ∈ highL n k, b < 256 := by
  intro b hb
  obtain ⟨i, _, rfl⟩ := List.mem_map.1 hb
  exact Nat.mod_lt _ (by decide)

theorem lowL_reverse (n k : Nat) : (highL n k).reverse = lowL n k := by
  apply List.ext_getElem
  · simp [lowL, highL]
  · intro i h1 h2
    have hi : i < k := by simpa [lowL] using h2
    simp only [List.getElem_reverse, highL, lowL, List.getElem_map, List.getElem_range, List.length_map, List.length_range]
    rw [show k - 1 - (k - 1 - i) = i from by omega]

theorem highL_succ (n k : Nat) : highL n (k + 1) = highL (n / 256) k ++ [n % 256] := by
  unfold highL
  rw [List.range_succ, List.map_append]
  congr 1
  · apply List.map_congr_left
    intro j hj
    have hj' : j < k := by simpa using hj
    rw [Nat.div_div_eq_div_mul, show k + 1 - 1 - j = (k - 1 - j) + 1 from by omega, Nat.pow_succ, Nat.mul_comm]
  · simp

theorem val_highL (n k : Nat) : val (highL n k) = n % 256 ^ k := by
  induction k generalizing n with
  | zero => simp [highL, val, Nat.mod_one]
  | succ k ih =>
    rw [highL_succ, val_snoc, ih, Nat.pow_succ, Nat.mul_comm (256 ^ k) 256, Nat.mod_mul]
    omega

/-- The number that a text is, the highest byte first; -1: it is none. -/
def fromBe (l : List Nat) : Int := if 8 < l.length ∨ 9223372036854775808 ≤ val l then -1 else (val l : Int)

theorem fromBe_long (l : List Nat) (h : 8 < l.length) : fromBe l = -1 := by unfold fromBe; rw [if_pos (.inl h)]
theorem fromBe_great (l : List Nat) (h : 9223372036854775808 ≤ val l) : fromBe l = -1 := by unfold fromBe; rw [if_pos (.inr h)]
theorem fromBe_of (l : List Nat) (h : l.length ≤ 8) (h2 : val l < 9223372036854775808) : fromBe l = val l := by unfold fromBe; rw [if_neg (by omega)]

/-- A first byte above 127 of eight. -/
theorem val_first (b : Nat) (t : List Nat) (ht : t.length = 7) (h : ∀ x ∈ t, x < 256) : 9223372036854775808 ≤ val (b :: t) ↔ 128 ≤ b := by
  have := val_lt t h
  rw [ht] at this
  rw [val_cons, ht]
  omega

/-- Does a number fit in so many bytes? -/
def fitsB (n width : Int) : Bool := decide (1 ≤ width ∧ width ≤ 8 ∧ 0 ≤ n ∧ n < 256 ^ width.toNat)

theorem fits_nat {n width : Int} (h : fitsB n width = true) : ∃ m k : Nat, n = m ∧ width = k ∧ 1 ≤ k ∧ k ≤ 8 ∧ m < 256 ^ k := by
  unfold fitsB at h
  have h := of_decide_eq_true h
  refine ⟨n.toNat, width.toNat, by omega, by omega, by omega, by omega, ?_⟩
  have h3 := h.2.2.2
  have h4 : ((n.toNat : Nat) : Int) < ((256 ^ width.toNat : Nat) : Int) := by
    rw [Int.toNat_of_nonneg h.2.2.1]
    simpa using h3
  omega

theorem fits_of_nat (m k : Nat) (h1 : 1 ≤ k) (h8 : k ≤ 8) (h : m < 256 ^ k) : fitsB (m : Int) (k : Int) = true := by
  unfold fitsB
  refine decide_eq_true ⟨by omega, by omega, by omega, ?_⟩
  have h4 : ((m : Nat) : Int) < ((256 ^ k : Nat) : Int) := by omega
  simpa using h4

/-- Le, Be, and their error. -/
def leT (n width : Int) : ByteArray := if fitsB n width then textOf (lowL n.toNat width.toNat) else ⟨#[]⟩
def beT (n width : Int) : ByteArray := if fitsB n width then textOf (highL n.toNat width.toNat) else ⟨#[]⟩
def wE (n width : Int) : Int := if fitsB n width then 0 else 11

theorem leT_nat (m k : Nat) (h : fitsB m k = true) : leT m k = textOf (lowL m k) := by unfold leT; rw [if_pos h]; simp
theorem beT_nat (m k : Nat) (h : fitsB m k = true) : beT m k = textOf (highL m k) := by unfold beT; rw [if_pos h]; simp
theorem wE_yes (n k : Int) (h : fitsB n k = true) : wE n k = 0 := by unfold wE; rw [if_pos h]
theorem leT_no (n k : Int) (h : fitsB n k = false) : leT n k = ⟨#[]⟩ := by unfold leT; rw [h]; rfl
theorem beT_no (n k : Int) (h : fitsB n k = false) : beT n k = ⟨#[]⟩ := by unfold beT; rw [h]; rfl
theorem wE_no (n k : Int) (h : fitsB n k = false) : wE n k = 11 := by unfold wE; rw [h]; rfl

end S2
end Go.Proofs.YtjkamannjgcmiaaDoor

namespace Go.Proofs.YtjkamannjgcmiaaDoor
open Go.RowKit
set_option linter.unusedSimpArgs false
set_option linter.unusedVariables false


section
variable {w : Nat}

/-- One bit, the highest first. -/
def bstep (p n : BitVec w) (b : Bool) : BitVec w := (n <<< 1) ^^^ (if n.msb != b then p else 0#w)

theorem xor_if (p a b : BitVec w) (s t : Bool) : (a ^^^ b) ^^^ (if (s ^^ t) then p else 0#w) = (a ^^^ (if s then p else 0#w)) ^^^ (b ^^^ (if t then p else 0#w)) := by
  apply BitVec.eq_of_getLsbD_eq
  intro i hi
  cases s <;> cases t <;> simp only [BitVec.getLsbD_xor, Bool.xor_false, Bool.false_xor, Bool.true_xor, Bool.not_true, Bool.not_false, Bool.xor_true, if_true, if_false, Bool.false_eq_true, BitVec.getLsbD_zero] <;>
    cases a.getLsbD i <;> cases b.getLsbD i <;> cases p.getLsbD i <;> rfl

theorem bstep_xor (p n m : BitVec w) (b c : Bool) : bstep p (n ^^^ m) (b ^^ c) = bstep p n b ^^^ bstep p m c := by
  unfold bstep
  rw [BitVec.msb_xor, BitVec.shiftLeft_xor_distrib, ← xor_if]
  congr 2
  cases n.msb <;> cases m.msb <;> cases b <;> cases c <;> rfl

/-- Its own highest bit: a mere shift. -/
theorem bstep_own (p n : BitVec w) : bstep p n n.msb = n <<< 1 := by
  unfold bstep
  simp

theorem bstep_zero (p d : BitVec w) (hp : p.getLsbD 0 = true) (h : bstep p d false = 0#w) : d = 0#w := by
  have hw : 0 < w := by
    rcases Nat.eq_zero_or_pos w with h0 | h0
    · subst h0
      simp at hp
    · exact h0
  have hm : d.msb = false := by
    have h0 := congrArg (fun x => x.getLsbD 0) h
    unfold bstep at h0
    cases hd : d.msb with
    | false => rfl
    | true =>
      simp [hd, BitVec.getLsbD_xor, BitVec.getLsbD_shiftLeft] at h0
      rw [hp] at h0
      cases h0
  have hs : d <<< 1 = 0#w := by
    unfold bstep at h
    simpa [hm] using h
  apply BitVec.eq_of_getLsbD_eq
  intro i hi
  by_cases hl : i + 1 < w
  · have h1 := congrArg (fun x => x.getLsbD (i + 1)) hs
    simp [BitVec.getLsbD_shiftLeft, hl] at h1
    rw [BitVec.getLsbD_eq_getElem hi]
    simpa using h1
  · have e : i = w - 1 := by omega
    have h2 : d.getLsbD (w - 1) = false := by
      rw [← BitVec.msb_eq_getLsbD_last]
      exact hm
    rw [e, h2]
    simp

theorem bstep_inj (p n m : BitVec w) (b : Bool) (hp : p.getLsbD 0 = true) (h : bstep p n b = bstep p m b) : n = m := by
  have e := bstep_xor p n m b b
  rw [h, BitVec.xor_self, Bool.xor_self] at e
  have := bstep_zero p _ hp e
  have h2 : n ^^^ m ^^^ m = 0#w ^^^ m := by rw [this]
  simpa [BitVec.xor_assoc] using h2

/-- Bits, one behind the other. -/
def bfold (p n : BitVec w) (l : List Bool) : BitVec w := l.foldl (bstep p) n

theorem bfold_inj (p : BitVec w) (hp : p.getLsbD 0 = true) : ∀ (l : List Bool) (n m : BitVec w), bfold p n l = bfold p m l → n = m
  | [], _, _, h => h
  | b :: l, n, m, h => bstep_inj p n m b hp (bfold_inj p hp l _ _ h)

theorem bfold_append (p n : BitVec w) (l k : List Bool) : bfold p n (l ++ k) = bfold p (bfold p n l) k := by
  unfold bfold
  rw [List.foldl_append]

/-- The bits of a byte, the highest first. -/
def bits8 (b : Nat) : List Bool := [b.testBit 7, b.testBit 6, b.testBit 5, b.testBit 4, b.testBit 3, b.testBit 2, b.testBit 1, b.testBit 0]

def byteStep (p n : BitVec w) (b : Nat) : BitVec w := bfold p n (bits8 b)

theorem byteStep_xor (p n m : BitVec w) (b c : Nat) : byteStep p (n ^^^ m) (b ^^^ c) = byteStep p n b ^^^ byteStep p m c := by
  simp only [byteStep, bfold, bits8, List.foldl_cons, List.foldl_nil, Nat.testBit_xor, bstep_xor]

theorem byteStep_inj (p n m : BitVec w) (b : Nat) (hp : p.getLsbD 0 = true) (h : byteStep p n b = byteStep p m b) : n = m := bfold_inj p hp _ _ _ h

/-- A text's sum, from a state on. -/
def crcL (p n : BitVec w) (l : List Nat) : BitVec w := l.foldl (byteStep p) n

theorem crcL_append (p n : BitVec w) (l k : List Nat) : crcL p n (l ++ k) = crcL p (crcL p n l) k := by
  unfold crcL
  rw [List.foldl_append]

theorem crcL_inj (p : BitVec w) (hp : p.getLsbD 0 = true) : ∀ (l : List Nat) (n m : BitVec w), crcL p n l = crcL p m l → n = m
  | [], _, _, h => h
  | b :: l, n, m, h => byteStep_inj p n m b hp (crcL_inj p hp l _ _ h)

theorem crcL_xor (p : BitVec w) : ∀ (l k : List Nat) (n m : BitVec w), l.length = k.length → crcL p (n ^^^ m) (List.zipWith (· ^^^ ·) l k) = crcL p n l ^^^ crcL p m k
  | [], [], _, _, _ => rfl
  | [], _ :: _, _, _, h => by simp at h
  | _ :: _, [], _, _, h => by simp at h
  | b :: l, c :: k, n, m, h => by
    show crcL p (byteStep p (n ^^^ m) (b ^^^ c)) (List.zipWith (· ^^^ ·) l k) = crcL p (byteStep p n b) l ^^^ crcL p (byteStep p m c) k
    rw [byteStep_xor]
    exact crcL_xor p l k _ _ (by simpa using h)

/-- One byte that is another one. -/
theorem crcL_spoilt (p : BitVec w) (hp : p.getLsbD 0 = true) (h8 : ∀ d, d < 256 → byteStep p 0#w d = 0#w → d = 0) (n : BitVec w) (l k : List Nat) (b c : Nat) (hb : b < 256) (hc : c < 256) (hne : b ≠ c) :
    crcL p n (l ++ b :: k) ≠ crcL p n (l ++ c :: k) := by
  intro h
  rw [crcL_append, crcL_append] at h
  have h1 : byteStep p (crcL p n l) b = byteStep p (crcL p n l) c := crcL_inj p hp k _ _ h
  have e := byteStep_xor p (crcL p n l) (crcL p n l) b c
  rw [h1, BitVec.xor_self, BitVec.xor_self] at e
  have hd := h8 (b ^^^ c) (Nat.xor_lt_two_pow (n := 8) hb hc) e
  apply hne
  have h2 : b ^^^ c ^^^ c = 0 ^^^ c := by rw [hd]
  simpa [Nat.xor_assoc] using h2

/-- A state's own bits, the highest first: k of them are a shift by k. -/
def ownBits (n : BitVec w) (k : Nat) : List Bool := (List.range k).map fun j => (n <<< j).msb

theorem bfold_own (p n : BitVec w) : ∀ k, bfold p n (ownBits n k) = n <<< k
  | 0 => by simp [ownBits, bfold]
  | k + 1 => by
    have e : ownBits n (k + 1) = ownBits n k ++ [(n <<< k).msb] := by simp [ownBits, List.range_succ]
    rw [e, bfold_append, bfold_own p n k]
    show bstep p (n <<< k) (n <<< k).msb = _
    rw [bstep_own, ← BitVec.shiftLeft_add]

theorem shl_msb (n : BitVec w) (j : Nat) (h : j < w) : (n <<< j).msb = n.getLsbD (w - 1 - j) := by
  rw [BitVec.msb_eq_getLsbD_last, BitVec.getLsbD_shiftLeft]
  have h1 : w - 1 < w := by omega
  have h2 : ¬ w - 1 < j := by omega
  simp [h1, h2]

/-- The byte from bit s on. -/
theorem ownBits_byte (n : BitVec w) (s : Nat) (h : s + 8 ≤ w) : (List.range 8).map (fun j => n.getLsbD (s + 7 - j)) = bits8 (n.toNat / 2 ^ s % 256) := by
  have hb : ∀ i, i < 8 → (n.toNat / 2 ^ s % 256).testBit i = n.getLsbD (s + i) := by
    intro i hi
    rw [show (256 : Nat) = 2 ^ 8 from rfl, Nat.testBit_mod_two_pow, Nat.testBit_div_two_pow, BitVec.getLsbD]
    simp [hi, Nat.add_comm]
  simp only [bits8, hb 7 (by omega), hb 6 (by omega), hb 5 (by omega), hb 4 (by omega), hb 3 (by omega), hb 2 (by omega), hb 1 (by omega), hb 0 (by omega)]
  rfl

/-- The highest byte of a state, fed to it: a shift by eight. -/
theorem byteStep_own (p n : BitVec w) (h : 8 ≤ w) : byteStep p n (n.toNat / 2 ^ (w - 8) % 256) = n <<< 8 := by
  have e := ownBits_byte n (w - 8) (by omega)
  have e2 : ownBits n 8 = (List.range 8).map (fun j => n.getLsbD (w - 8 + 7 - j)) := by
    unfold ownBits
    apply List.map_congr_left
    intro j hj
    have hj' : j < 8 := by simpa using hj
    rw [shl_msb n j (by omega)]
    congr 1
    omega
  unfold byteStep
  rw [← e, ← e2, bfold_own]

/-- A step by a table. -/
theorem byteStep_table (p n : BitVec w) (b : Nat) (h : 8 ≤ w) : byteStep p n b = (n <<< 8) ^^^ byteStep p 0#w (n.toNat / 2 ^ (w - 8) % 256 ^^^ b) := by
  rw [← byteStep_own p n h, ← byteStep_xor, BitVec.xor_zero, ← Nat.xor_assoc, Nat.xor_self, Nat.zero_xor]

end

theorem nought8 (p n : BitVec 8) : crcL p n [n.toNat % 256] = 0#8 := by
  have h1 := byteStep_own p n (by decide)
  simp only [Nat.sub_self, Nat.pow_zero, Nat.div_one] at h1
  show byteStep p n (n.toNat % 256) = _
  rw [h1]
  simp

theorem shl_toNat (n : BitVec 16) : (n <<< 8).toNat / 2 ^ 8 % 256 = n.toNat % 256 := by
  rw [BitVec.toNat_shiftLeft, Nat.shiftLeft_eq]
  have := n.isLt
  omega

theorem nought16 (p n : BitVec 16) : crcL p n [n.toNat / 256 % 256, n.toNat % 256] = 0#16 := by
  have h1 := byteStep_own p n (by decide)
  have h2 := byteStep_own p (n <<< 8) (by decide)
  rw [shl_toNat] at h2
  show byteStep p (byteStep p n (n.toNat / 256 % 256)) (n.toNat % 256) = _
  rw [show n.toNat / 256 % 256 = n.toNat / 2 ^ (16 - 8) % 256 from rfl, h1, h2, ← BitVec.shiftLeft_add]
  simp

theorem nought32 (p n : BitVec 32) : crcL p n [n.toNat / 16777216 % 256, n.toNat / 65536 % 256, n.toNat / 256 % 256, n.toNat % 256] = 0#32 := by
  have h1 := byteStep_own p n (by decide)
  have h2 := byteStep_own p (n <<< 8) (by decide)
  have h3 := byteStep_own p (n <<< 8 <<< 8) (by decide)
  have h4 := byteStep_own p (n <<< 8 <<< 8 <<< 8) (by decide)
  have hn := n.isLt
  have e2 : (n <<< 8).toNat / 2 ^ (32 - 8) % 256 = n.toNat / 65536 % 256 := by
    rw [BitVec.toNat_shiftLeft, Nat.shiftLeft_eq]
    omega
  have e3 : (n <<< 8 <<< 8).toNat / 2 ^ (32 - 8) % 256 = n.toNat / 256 % 256 := by
    rw [BitVec.toNat_shiftLeft, BitVec.toNat_shiftLeft, Nat.shiftLeft_eq, Nat.shiftLeft_eq]
    omega
  have e4 : (n <<< 8 <<< 8 <<< 8).toNat / 2 ^ (32 - 8) % 256 = n.toNat % 256 := by
    rw [BitVec.toNat_shiftLeft, BitVec.toNat_shiftLeft, BitVec.toNat_shiftLeft, Nat.shiftLeft_eq, Nat.shiftLeft_eq, Nat.shiftLeft_eq]
    omega
  rw [e2] at h2
  rw [e3] at h3
  rw [e4] at h4
  show byteStep p (byteStep p (byteStep p (byteStep p n (n.toNat / 16777216 % 256)) (n.toNat / 65536 % 256)) (n.toNat / 256 % 256)) (n.toNat % 256) = _
  rw [show n.toNat / 16777216 % 256 = n.toNat / 2 ^ (32 - 8) % 256 from rfl, h1, h2, h3, h4, ← BitVec.shiftLeft_add, ← BitVec.shiftLeft_add, ← BitVec.shiftLeft_add]
  simp

section
variable {w : Nat}

/-- One bit, the lowest first. -/
def rstep (q n : BitVec w) : BitVec w := (n >>> 1) ^^^ (if n.getLsbD 0 then q else 0#w)

theorem rstep_xor (q n m : BitVec w) : rstep q (n ^^^ m) = rstep q n ^^^ rstep q m := by
  unfold rstep
  rw [BitVec.getLsbD_xor, BitVec.ushiftRight_xor_distrib, ← xor_if]

theorem rstep_zero (q d : BitVec w) (hq : q.msb = true) (h : rstep q d = 0#w) : d = 0#w := by
  have hw : 0 < w := by
    rcases Nat.eq_zero_or_pos w with h0 | h0
    · subst h0
      simp [BitVec.msb, BitVec.getMsbD] at hq
    · exact h0
  have hl : d.getLsbD 0 = false := by
    have h0 := congrArg (fun x => x.getLsbD (w - 1)) h
    unfold rstep at h0
    cases hd : d.getLsbD 0 with
    | false => rfl
    | true =>
      rw [BitVec.msb_eq_getLsbD_last] at hq
      have h1 : d.getLsbD (1 + (w - 1)) = false := BitVec.getLsbD_of_ge _ _ (by omega)
      simp only [hd, if_true, BitVec.getLsbD_xor, BitVec.getLsbD_ushiftRight, hq, h1, BitVec.getLsbD_zero] at h0
      cases h0
  have hs : d >>> 1 = 0#w := by
    unfold rstep at h
    simpa [hl] using h
  apply BitVec.eq_of_getLsbD_eq
  intro i hi
  cases i with
  | zero => rw [hl]; simp
  | succ i =>
    have h1 := congrArg (fun x => x.getLsbD i) hs
    simp only [BitVec.getLsbD_ushiftRight, BitVec.getLsbD_zero] at h1
    rw [Nat.add_comm i 1, h1]
    simp

theorem rstep_inj (q n m : BitVec w) (hq : q.msb = true) (h : rstep q n = rstep q m) : n = m := by
  have e := rstep_xor q n m
  rw [h, BitVec.xor_self] at e
  have := rstep_zero q _ hq e
  have h2 : n ^^^ m ^^^ m = 0#w ^^^ m := by rw [this]
  simpa [BitVec.xor_assoc] using h2

/-- Eight bits. -/
def r8 (q n : BitVec w) : BitVec w := rstep q (rstep q (rstep q (rstep q (rstep q (rstep q (rstep q (rstep q n)))))))
/-- The same, bit by bit. -/
def rN (q : BitVec w) : Nat → BitVec w → BitVec w
  | 0, n => n
  | k + 1, n => rN q k (rstep q n)
theorem r8_eq (q n : BitVec w) : rN q 8 n = r8 q n := rfl

theorem r8_xor (q n m : BitVec w) : r8 q (n ^^^ m) = r8 q n ^^^ r8 q m := by simp only [r8, rstep_xor]
theorem r8_inj (q n m : BitVec w) (hq : q.msb = true) (h : r8 q n = r8 q m) : n = m := by
  unfold r8 at h
  exact rstep_inj q _ _ hq (rstep_inj q _ _ hq (rstep_inj q _ _ hq (rstep_inj q _ _ hq (rstep_inj q _ _ hq (rstep_inj q _ _ hq (rstep_inj q _ _ hq (rstep_inj q _ _ hq h)))))))

theorem rstep_even (q x : BitVec w) (h : x.getLsbD 0 = false) : rstep q x = x >>> 1 := by
  unfold rstep
  simp [h]

theorem rstep_shr (q x : BitVec w) (k : Nat) (h : x.getLsbD k = false) : rstep q (x >>> k) = x >>> (k + 1) := by
  rw [rstep_even q (x >>> k) (by rw [BitVec.getLsbD_ushiftRight]; simpa using h), BitVec.shiftRight_add]

theorem r8_even (q x : BitVec w) (h : ∀ i, i < 8 → x.getLsbD i = false) : r8 q x = x >>> 8 := by
  have e0 : rstep q x = x >>> 1 := rstep_even q x (h 0 (by omega))
  unfold r8
  rw [e0, rstep_shr q x 1 (h 1 (by omega)), rstep_shr q x 2 (h 2 (by omega)), rstep_shr q x 3 (h 3 (by omega)), rstep_shr q x 4 (h 4 (by omega)), rstep_shr q x 5 (h 5 (by omega)), rstep_shr q x 6 (h 6 (by omega)),
    rstep_shr q x 7 (h 7 (by omega))]

/-- One byte, the lowest bit first. -/
def byteR (q n : BitVec w) (b : Nat) : BitVec w := r8 q (n ^^^ BitVec.ofNat w b)
def crcR (q n : BitVec w) (l : List Nat) : BitVec w := l.foldl (byteR q) n

theorem crcR_append (q n : BitVec w) (l k : List Nat) : crcR q n (l ++ k) = crcR q (crcR q n l) k := by
  unfold crcR
  rw [List.foldl_append]

theorem byteR_inj (q n m : BitVec w) (b : Nat) (hq : q.msb = true) (h : byteR q n b = byteR q m b) : n = m := by
  have h1 := r8_inj q _ _ hq h
  have h2 : n ^^^ BitVec.ofNat w b ^^^ BitVec.ofNat w b = m ^^^ BitVec.ofNat w b ^^^ BitVec.ofNat w b := by rw [h1]
  simpa [BitVec.xor_assoc] using h2

theorem crcR_inj (q : BitVec w) (hq : q.msb = true) : ∀ (l : List Nat) (n m : BitVec w), crcR q n l = crcR q m l → n = m
  | [], _, _, h => h
  | b :: l, n, m, h => byteR_inj q n m b hq (crcR_inj q hq l _ _ h)

theorem crcR_spoilt (q : BitVec w) (hq : q.msb = true) (hw : 8 ≤ w) (n : BitVec w) (l k : List Nat) (b c : Nat) (hb : b < 256) (hc : c < 256) (hne : b ≠ c) : crcR q n (l ++ b :: k) ≠ crcR q n (l ++ c :: k) := by
  intro h
  rw [crcR_append, crcR_append] at h
  have h1 : byteR q (crcR q n l) b = byteR q (crcR q n l) c := crcR_inj q hq k _ _ h
  have h2 := r8_inj q _ _ hq h1
  generalize crcR q n l = x at h2
  have h3 : x ^^^ (x ^^^ BitVec.ofNat w b) = x ^^^ (x ^^^ BitVec.ofNat w c) := by rw [h2]
  rw [← BitVec.xor_assoc, ← BitVec.xor_assoc, BitVec.xor_self, BitVec.zero_xor, BitVec.zero_xor] at h3
  have h4 := congrArg BitVec.toNat h3
  have hp : 2 ^ 8 ≤ 2 ^ w := Nat.pow_le_pow_right (by decide) hw
  rw [BitVec.toNat_ofNat, BitVec.toNat_ofNat, Nat.mod_eq_of_lt (by omega), Nat.mod_eq_of_lt (by omega)] at h4
  exact hne h4

/-- A step by a table, the lowest byte's. -/
theorem byteR_table (q n : BitVec w) (b : Nat) (hb : b < 256) (hw : 8 ≤ w) : byteR q n b = (n >>> 8) ^^^ r8 q (BitVec.ofNat w ((n.toNat % 256) ^^^ b)) := by
  have e : n ^^^ BitVec.ofNat w b = (n >>> 8 <<< 8) ^^^ BitVec.ofNat w ((n.toNat % 256) ^^^ b) := by
    apply BitVec.eq_of_getLsbD_eq
    intro i hi
    rw [BitVec.getLsbD_xor, BitVec.getLsbD_xor, BitVec.getLsbD_shiftLeft, BitVec.getLsbD_ushiftRight, BitVec.getLsbD_ofNat, BitVec.getLsbD_ofNat, Nat.testBit_xor, show (256 : Nat) = 2 ^ 8 from rfl, Nat.testBit_mod_two_pow]
    by_cases h8 : i < 8
    · simp [hi, h8, BitVec.getLsbD]
    · have hbb : b.testBit i = false := Nat.testBit_lt_two_pow (Nat.lt_of_lt_of_le hb (show 2 ^ 8 ≤ 2 ^ i from Nat.pow_le_pow_right (by decide) (by omega)))
      simp [hi, h8, hbb, show 8 + (i - 8) = i by omega]
  unfold byteR
  rw [e, r8_xor, r8_even q _ (fun i hi => by rw [BitVec.getLsbD_shiftLeft]; simp [hi])]
  congr 1
  apply BitVec.eq_of_getLsbD_eq
  intro i hi
  rw [BitVec.getLsbD_ushiftRight, BitVec.getLsbD_shiftLeft, BitVec.getLsbD_ushiftRight, BitVec.getLsbD_ushiftRight]
  by_cases h : 8 + i < w
  · simp [h]
  · rw [BitVec.getLsbD_of_ge n (8 + i) (by omega)]
    simp [h]

end

/-- The document's four. -/
def p8 : BitVec 8 := 0x07#8
def p16 : BitVec 16 := 0x8005#16
def p32 : BitVec 32 := 0x04C11DB7#32
def q32 : BitVec 32 := 0xEDB88320#32

theorem odd8 : p8.getLsbD 0 = true := by decide
theorem odd16 : p16.getLsbD 0 = true := by decide
theorem odd32 : p32.getLsbD 0 = true := by decide
theorem high32 : q32.msb = true := by decide
theorem told8 : ∀ d, d < 256 → byteStep p8 0#8 d = 0#8 → d = 0 := fun d hd => (by decide +kernel : ∀ d : Fin 256, byteStep p8 0#8 d.val = 0#8 → d.val = 0) ⟨d, hd⟩
theorem told16 : ∀ d, d < 256 → byteStep p16 0#16 d = 0#16 → d = 0 := fun d hd => (by decide +kernel : ∀ d : Fin 256, byteStep p16 0#16 d.val = 0#16 → d.val = 0) ⟨d, hd⟩
theorem told32 : ∀ d, d < 256 → byteStep p32 0#32 d = 0#32 → d = 0 := fun d hd => (by decide +kernel : ∀ d : Fin 256, byteStep p32 0#32 d.val = 0#32 → d.val = 0) ⟨d, hd⟩

/-- The machine's xor and and of numbers from 0 on. -/
theorem i64_xor_nat (a b : Nat) (ha : a < 9223372036854775808) (hb : b < 9223372036854775808) : bits .xor .i64 (a : Int) (b : Int) = ((a ^^^ b : Nat) : Int) := by
  show IntKind.i64.wrap ((BitVec.ofInt 64 (a : Int) ^^^ BitVec.ofInt 64 (b : Int)).toNat : Int) = _
  rw [BitVec.toNat_xor, BitVec.toNat_ofInt, BitVec.toNat_ofInt]
  have ea : ((a : Int) % ((2 ^ 64 : Nat) : Int)).toNat = a := by omega
  have eb : ((b : Int) % ((2 ^ 64 : Nat) : Int)).toNat = b := by omega
  rw [ea, eb]
  have hl : a ^^^ b < 2 ^ 63 := Nat.xor_lt_two_pow ha hb
  rw [IntKind.wrap_i64]
  omega

theorem i64_and_nat (a b : Nat) (ha : a < 9223372036854775808) (hb : b < 9223372036854775808) : bits .and .i64 (a : Int) (b : Int) = ((a &&& b : Nat) : Int) := by
  show IntKind.i64.wrap ((BitVec.ofInt 64 (a : Int) &&& BitVec.ofInt 64 (b : Int)).toNat : Int) = _
  rw [BitVec.toNat_and, BitVec.toNat_ofInt, BitVec.toNat_ofInt]
  have ea : ((a : Int) % ((2 ^ 64 : Nat) : Int)).toNat = a := by omega
  have eb : ((b : Int) % ((2 ^ 64 : Nat) : Int)).toNat = b := by omega
  rw [ea, eb]
  have hl : a &&& b < 2 ^ 63 := Nat.and_lt_two_pow _ hb
  rw [IntKind.wrap_i64]
  omega

end Go.Proofs.YtjkamannjgcmiaaDoor
