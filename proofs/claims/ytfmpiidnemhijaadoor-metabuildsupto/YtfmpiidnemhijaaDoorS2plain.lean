/- Own text: numbers as bytes, plainly. -/
import Derived.Test.YtfmpiidnemhijaaDoorWcalls
import Derived.Test.YtfmpiidnemhijaaDoorReader
import Derived.WalkKit
namespace Go.Proofs.YtfmpiidnemhijaaDoor
open Go.RowKit
set_option linter.unusedSimpArgs false
set_option linter.unusedVariables false
namespace S2

theorem textOf_nil : textOf [] = ⟨#[]⟩ := rfl

theorem textOf_size (l : List Nat) : (textOf l).size = l.length := by
  show (List.toArray _).size = _
  simp

theorem bytesOf_textOf (l : List Nat) (h : ∀ b ∈ l, b < 256) : bytesOf (textOf l) = l := by
  unfold bytesOf textOf
  simp only [List.map_map]
  conv => rhs; rw [← List.map_id l]
  apply List.map_congr_left
  intro b hb
  have := h b hb
  simp only [Function.comp, id, UInt8.toNat_ofNat']
  omega

theorem textOf_bytesOf (s : ByteArray) : textOf (bytesOf s) = s := by
  unfold bytesOf textOf
  rw [List.map_map]
  have e : (s.data.toList.map ((fun b => UInt8.ofNat b) ∘ UInt8.toNat)) = s.data.toList := by
    conv => rhs; rw [← List.map_id s.data.toList]
    apply List.map_congr_left
    intro b _
    simp [Function.comp]
  rw [e]

theorem textOf_inj (a b : List Nat) (ha : ∀ x ∈ a, x < 256) (hb : ∀ x ∈ b, x < 256) (h : textOf a = textOf b) : a = b := by
  have := congrArg bytesOf h
  rwa [bytesOf_textOf a ha, bytesOf_textOf b hb] at this

theorem textOf_append (a b : List Nat) : textOf a ++ textOf b = textOf (a ++ b) := by
  apply ByteArray.ext
  unfold textOf
  simp [ByteArray.data_append]

theorem bytesOf_append (s t : ByteArray) : bytesOf (s ++ t) = bytesOf s ++ bytesOf t := by
  unfold bytesOf
  simp [ByteArray.data_append]

/-- The number that bytes are, the highest first. -/
def val (l : List Nat) : Nat := l.foldl (fun a b => a * 256 + b) 0

theorem val_nil : val [] = 0 := rfl
theorem val_snoc (l : List Nat) (b : Nat) : val (l ++ [b]) = val l * 256 + b := by
  unfold val
  rw [List.foldl_append]
  rfl

theorem foldl_from (l : List Nat) (a : Nat) : l.foldl (fun a b => a * 256 + b) a = a * 256 ^ l.length + val l := by
  induction l generalizing a with
  | nil => simp [val]
  | cons b t ih =>
    have e : val (b :: t) = t.foldl (fun a b => a * 256 + b) b := by simp [val]
    rw [e, List.foldl_cons, ih, ih b, List.length_cons, Nat.pow_succ, Nat.add_mul, Nat.mul_assoc, Nat.mul_comm 256]
    omega

theorem val_cons (b : Nat) (l : List Nat) : val (b :: l) = b * 256 ^ l.length + val l := by
  have e : val (b :: l) = l.foldl (fun a b => a * 256 + b) b := by simp [val]
  rw [e, foldl_from]

theorem val_append (a b : List Nat) : val (a ++ b) = val a * 256 ^ b.length + val b := by
  unfold val
  rw [List.foldl_append, foldl_from]
  rfl

theorem val_lt (l : List Nat) (h : ∀ b ∈ l, b < 256) : val l < 256 ^ l.length := by
  induction l with
  | nil => simp [val]
  | cons b t ih =>
    have hb : b < 256 := h b (by simp)
    have ht := ih (fun x hx => h x (by simp [hx]))
    rw [val_cons, List.length_cons, Nat.pow_succ]
    have : b * 256 ^ t.length ≤ 255 * 256 ^ t.length := Nat.mul_le_mul_right _ (by omega)
    omega

/-- k bytes of n, the lowest first, the highest first. -/
def lowL (n k : Nat) : List Nat := (List.range k).map fun i => n / 256 ^ i % 256
def highL (n k : Nat) : List Nat := (List.range k).map fun j => n / 256 ^ (k - 1 - j) % 256

theorem lowL_length (n k : Nat) : (lowL n k).length = k := by simp [lowL]
theorem highL_length (n k : Nat) : (highL n k).length = k := by simp [highL]
theorem lowL_lt (n k : Nat) : ∀ b ∈ lowL n k, b < 256 := by
  intro b hb
  obtain ⟨i, _, rfl⟩ := List.mem_map.1 hb
  exact Nat.mod_lt _ (by decide)
theorem highL_lt (n k : Nat) : ∀ b ∈ highL n k, b < 256 := by
  intro b hb
  obtain ⟨i, _, rfl⟩ := List.mem_map.1 hb
  exact Nat.mod_lt _ (by decide)

theorem lowL_reverse (n k : Nat) : (highL n k).reverse = lowL n k := by
  apply List.ext_getElem
  · simp [lowL, highL]
  · intro i h1 h2
    have hi : i < k := by simpa [lowL] using h2
    simp only [List.getElem_reverse, highL, lowL, List.getElem_map, List.getElem_range, List.length_map, List.length_range]
    rw [show k - 1 - (k - 1 - i) = i from by omega]

theorem highL_succ (n k : Nat) : highL n (k + 1) = highL (n / 256) k ++ [n % 256] := by
  unfold highL
  rw [List.range_succ, List.map_append]
  congr 1
  · apply List.map_congr_left
    intro j hj
    have hj' : j < k := by simpa using hj
    rw [Nat.div_div_eq_div_mul, show k + 1 - 1 - j = (k - 1 - j) + 1 from by omega, Nat.pow_succ, Nat.mul_comm]
  · simp

theorem val_highL (n k : Nat) : val (highL n k) = n % 256 ^ k := by
  induction k generalizing n with
  | zero => simp [highL, val, Nat.mod_one]
  | succ k ih =>
    rw [highL_succ, val_snoc, ih, Nat.pow_succ, Nat.mul_comm (256 ^ k) 256, Nat.mod_mul]
    omega

/-- The number that a text is, the highest byte first; -1: it is none. -/
def fromBe (l : List Nat) : Int := if 8 < l.length ∨ 9223372036854775808 ≤ val l then -1 else (val l : Int)

theorem fromBe_long (l : List Nat) (h : 8 < l.length) : fromBe l = -1 := by unfold fromBe; rw [if_pos (.inl h)]
theorem fromBe_great (l : List Nat) (h : 9223372036854775808 ≤ val l) : fromBe l = -1 := by unfold fromBe; rw [if_pos (.inr h)]
theorem fromBe_of (l : List Nat) (h : l.length ≤ 8) (h2 : val l < 9223372036854775808) : fromBe l = val l := by unfold fromBe; rw [if_neg (by omega)]

/-- A first byte above 127 of eight. -/
theorem val_first (b : Nat) (t : List Nat) (ht : t.length = 7) (h : ∀ x ∈ t, x < 256) : 9223372036854775808 ≤ val (b :: t) ↔ 128 ≤ b := by
  have := val_lt t h
  rw [ht] at this
  rw [val_cons, ht]
  omega

/-- Does a number fit in so many bytes? -/
def fitsB (n width : Int) : Bool := decide (1 ≤ width ∧ width ≤ 8 ∧ 0 ≤ n ∧ n < 256 ^ width.toNat)

theorem fits_nat {n width : Int} (h : fitsB n width = true) : ∃ m k : Nat, n = m ∧ width = k ∧ 1 ≤ k ∧ k ≤ 8 ∧ m < 256 ^ k := by
  unfold fitsB at h
  have h := of_decide_eq_true h
  refine ⟨n.toNat, width.toNat, by omega, by omega, by omega, by omega, ?_⟩
  have h3 := h.2.2.2
  have h4 : ((n.toNat : Nat) : Int) < ((256 ^ width.toNat : Nat) : Int) := by
    rw [Int.toNat_of_nonneg h.2.2.1]
    simpa using h3
  omega

theorem fits_of_nat (m k : Nat) (h1 : 1 ≤ k) (h8 : k ≤ 8) (h : m < 256 ^ k) : fitsB (m : Int) (k : Int) = true := by
  unfold fitsB
  refine decide_eq_true ⟨by omega, by omega, by omega, ?_⟩
  have h4 : ((m : Nat) : Int) < ((256 ^ k : Nat) : Int) := by omega
  simpa using h4

/-- Le, Be, and their error. -/
def leT (n width : Int) : ByteArray := if fitsB n width then textOf (lowL n.toNat width.toNat) else ⟨#[]⟩
def beT (n width : Int) : ByteArray := if fitsB n width then textOf (highL n.toNat width.toNat) else ⟨#[]⟩
def wE (n width : Int) : Int := if fitsB n width then 0 else 11

theorem leT_nat (m k : Nat) (h : fitsB m k = true) : leT m k = textOf (lowL m k) := by unfold leT; rw [if_pos h]; simp
theorem beT_nat (m k : Nat) (h : fitsB m k = true) : beT m k = textOf (highL m k) := by unfold beT; rw [if_pos h]; simp
theorem wE_yes (n k : Int) (h : fitsB n k = true) : wE n k = 0 := by unfold wE; rw [if_pos h]
theorem leT_no (n k : Int) (h : fitsB n k = false) : leT n k = ⟨#[]⟩ := by unfold leT; rw [h]; rfl
theorem beT_no (n k : Int) (h : fitsB n k = false) : beT n k = ⟨#[]⟩ := by unfold beT; rw [h]; rfl
theorem wE_no (n k : Int) (h : fitsB n k = false) : wE n k = 11 := by unfold wE; rw [h]; rfl

end S2
end Go.Proofs.YtfmpiidnemhijaaDoor
