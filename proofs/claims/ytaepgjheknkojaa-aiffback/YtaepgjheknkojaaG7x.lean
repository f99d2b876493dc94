/- Own text: chunks, plain laws. the walks of the document's Id, from, to, num. -/
import Derived.Test.YtaepgjheknkojaaPlain
import Derived.Test.YtaepgjheknkojaaRefbytes
namespace Go.Proofs.Ytaepgjheknkojaa
open Go.RowKit
set_option linter.unusedSimpArgs false
set_option linter.unusedVariables false

/-- A chunk. -/
structure Chk where
  id : ByteArray
  body : ByteArray
  pad : Int
def noC : Chk := ⟨⟨#[]⟩, ⟨#[]⟩, 0⟩
def idByte (b : Nat) : Bool := decide (32 ≤ b ∧ b ≤ 126)
def idB (s : ByteArray) : Bool := (bytesOf s).all idByte && decide (s.size = 4)
/-- Bytes as a number, the lowest first. -/
def leI (s : ByteArray) : Int := fromBe (bytesOf s).reverse
def fromN (s : ByteArray) (big : Bool) : Int := if big then fromBe (bytesOf s) else leI s
def toT (n : Int) (big : Bool) : ByteArray := if big then beT n 4 else leT n 4
def numN (s : ByteArray) (at' n : Nat) : Int := leI (s.extract at' (at' + n))
/-- How long the Body of the chunk is with which s begins. -/
def lenC (s : ByteArray) (big : Bool) (long : Int) : Int := if 0 ≤ long then long else fromN (s.extract 4 8) big
def oneB (s : ByteArray) (big : Bool) (long : Int) : Bool := decide (8 ≤ s.size) && (idB (s.extract 0 4) && decide (lenC s big long ≤ (s.size : Int) - 8))
def padC (s : ByteArray) (n : Nat) : Int := if n % 2 = 1 then (if 8 + n < s.size then ((bytesOf s).getD (8 + n) 0 : Int) else -1) else 0
def oneC (s : ByteArray) (big : Bool) (long : Int) : Chk := ⟨s.extract 0 4, s.extract 8 (8 + (lenC s big long).toNat), padC s (lenC s big long).toNat⟩
def oneN (s : ByteArray) (big : Bool) (long : Int) : Nat := 8 + (lenC s big long).toNat + (if (lenC s big long).toNat % 2 = 1 ∧ 8 + (lenC s big long).toNat < s.size then 1 else 0)

theorem fromBe_four (l : List Nat) (h4 : l.length ≤ 4) (h : ∀ b ∈ l, b < 256) : 0 ≤ fromBe l ∧ fromBe l < 4294967296 := by
  have h1 := val_lt l h
  have h2 : 256 ^ l.length ≤ 256 ^ 4 := Nat.pow_le_pow_right (by decide) h4
  have h3 : (256 : Nat) ^ 4 = 4294967296 := by decide
  rw [fromBe_of l (by omega) (by omega)]
  omega
theorem ext_size (s : ByteArray) (a b : Nat) (h1 : a ≤ b) (h2 : b ≤ s.size) : (s.extract a b).size = b - a := by
  rw [ByteArray.size_extract, Nat.min_eq_left h2]
theorem fromN_range (s : ByteArray) (big : Bool) (h : s.size ≤ 4) : 0 ≤ fromN s big ∧ fromN s big < 4294967296 := by
  unfold fromN leI
  split
  · exact fromBe_four _ (by rw [bytesOf_length]; exact h) (bytesOf_lt s)
  · exact fromBe_four _ (by rw [List.length_reverse, bytesOf_length]; exact h) (fun b hb => bytesOf_lt s b (List.mem_reverse.1 hb))
theorem lenC_nonneg (s : ByteArray) (big : Bool) (long : Int) (h : 8 ≤ s.size) : 0 ≤ lenC s big long := by
  unfold lenC
  split
  · assumption
  · exact (fromN_range _ big (by rw [ext_size _ _ _ (by omega) h]; decide)).1
theorem oneN_le (s : ByteArray) (big : Bool) (long : Int) (h : oneB s big long = true) : 8 ≤ oneN s big long ∧ oneN s big long ≤ s.size := by
  unfold oneB at h
  obtain ⟨h1, h2⟩ := Bool.and_eq_true_iff.1 h
  obtain ⟨_, h3⟩ := Bool.and_eq_true_iff.1 h2
  have h1 := of_decide_eq_true h1
  have h3 := of_decide_eq_true h3
  have h0 := lenC_nonneg s big long h1
  unfold oneN
  split <;> omega

/-- The chunks of a text from a place on. -/
def chunksR (s : ByteArray) (big : Bool) : Nat → Nat → List Chk → List Chk × Int
  | 0, _, acc => (acc, 0)
  | fuel + 1, at', acc =>
    if at' < s.size then
      (if oneB (s.extract at' s.size) big (-1) then
        (if acc.length = 1024 then ([], 5) else chunksR s big fuel (at' + oneN (s.extract at' s.size) big (-1)) (acc ++ [oneC (s.extract at' s.size) big (-1)]))
      else ([], 2))
    else (acc, 0)
def chunksN (s : ByteArray) (big : Bool) : List Chk × Int := chunksR s big (s.size + 1) 0 []
theorem chunksR_end (s : ByteArray) (big : Bool) (fuel at' : Nat) (acc : List Chk) (h : ¬ at' < s.size) : chunksR s big (fuel + 1) at' acc = (acc, 0) := by
  rw [chunksR, if_neg h]
theorem chunksR_bad (s : ByteArray) (big : Bool) (fuel at' : Nat) (acc : List Chk) (h : at' < s.size) (hb : oneB (s.extract at' s.size) big (-1) = false) : chunksR s big (fuel + 1) at' acc = ([], 2) := by
  rw [chunksR, if_pos h, hb]
  rfl
theorem chunksR_many (s : ByteArray) (big : Bool) (fuel at' : Nat) (acc : List Chk) (h : at' < s.size) (hb : oneB (s.extract at' s.size) big (-1) = true) (hl : acc.length = 1024) : chunksR s big (fuel + 1) at' acc = ([], 5) := by
  rw [chunksR, if_pos h, hb, if_pos rfl, if_pos hl]
theorem chunksR_step (s : ByteArray) (big : Bool) (fuel at' : Nat) (acc : List Chk) (h : at' < s.size) (hb : oneB (s.extract at' s.size) big (-1) = true) (hl : ¬ acc.length = 1024) :
    chunksR s big (fuel + 1) at' acc = chunksR s big fuel (at' + oneN (s.extract at' s.size) big (-1)) (acc ++ [oneC (s.extract at' s.size) big (-1)]) := by
  rw [chunksR, if_pos h, hb, if_pos rfl, if_neg hl]

end Go.Proofs.Ytaepgjheknkojaa

namespace Go.Proofs.Ytaepgjheknkojaa
open Go.RowKit
set_option linter.unusedSimpArgs false
set_option linter.unusedVariables false

theorem all_byte_false (s : ByteArray) (i : Nat) (hi : i < s.size) (h : idByte (s[i]'hi).toNat = false) : idB s = false := by
  unfold idB
  have : (bytesOf s).all idByte = false := by
    rw [List.all_eq_false]
    refine ⟨(bytesOf s)[i]'(by rw [bytesOf_length]; exact hi), List.getElem_mem _, ?_⟩
    rw [bytesOf_get s i hi, h]
    decide
  rw [this]
  rfl
theorem all_byte_true (s : ByteArray) (h : ∀ i (hi : i < s.size), idByte (s[i]'hi).toNat = true) : idB s = decide (s.size = 4) := by
  unfold idB
  have : (bytesOf s).all idByte = true := by
    rw [List.all_eq_true]
    intro b hb
    obtain ⟨i, hi, rfl⟩ := List.mem_iff_getElem.1 hb
    rw [bytesOf_length] at hi
    rw [bytesOf_get s i hi]
    exact h i hi
  rw [this]
  rfl

end Go.Proofs.Ytaepgjheknkojaa
