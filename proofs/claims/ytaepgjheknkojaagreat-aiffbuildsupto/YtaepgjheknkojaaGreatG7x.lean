/- Own text: chunks, plain laws. the walks of the document's Id, from, to, num. -/
import Derived.Test.YtaepgjheknkojaaGreatPlain
import Derived.Test.YtaepgjheknkojaaGreatRefbytes
namespace Go.Proofs.YtaepgjheknkojaaGreat
open Go.RowKit
set_option linter.unusedSimpArgs false
set_option linter.unusedVariables false

/-- A chunk. -/
structure Chk where
  id : ByteArray
  body : ByteArray
  pad : Int
def noC : Chk := ⟨⟨#[]⟩, ⟨#[]⟩, 0⟩
def idByte (b : Nat) : Bool := decide (32 ≤ b ∧ b ≤ 126)
def idB (s : ByteArray) : Bool := (bytesOf s).all idByte && decide (s.size = 4)
/-- Bytes as a number, the lowest first. -/
def leI (s : ByteArray) : Int := fromBe (bytesOf s).reverse
def fromN (s : ByteArray) (big : Bool) : Int := if big then fromBe (bytesOf s) else leI s
def toT (n : Int) (big : Bool) : ByteArray := if big then beT n 4 else leT n 4
def numN (s : ByteArray) (at' n : Nat) : Int := leI (s.extract at' (at' + n))
/-- How long the Body of the chunk is with which s begins. -/
def lenC (s : ByteArray) (big : Bool) (long : Int) : Int := if 0 ≤ long then long else fromN (s.extract 4 8) big
def oneB (s : ByteArray) (big : Bool) (long : Int) : Bool := decide (8 ≤ s.size) && (idB (s.extract 0 4) && decide (lenC s big long ≤ (s.size : Int) - 8))
def padC (s : ByteArray) (n : Nat) : Int := if n % 2 = 1 then (if 8 + n < s.size then ((bytesOf s).getD (8 + n) 0 : Int) else -1) else 0
def oneC (s : ByteArray) (big : Bool) (long : Int) : Chk := ⟨s.extract 0 4, s.extract 8 (8 + (lenC s big long).toNat), padC s (lenC s big long).toNat⟩
def oneN (s : ByteArray) (big : Bool) (long : Int) : Nat := 8 + (lenC s big long).toNat + (if (lenC s big long).toNat % 2 = 1 ∧ 8 + (lenC s big long).toNat < s.size then 1 else 0)

theorem fromBe_four (l : List Nat) (h4 : l.length ≤ 4) (h : ∀ b ∈ l, b < 256) : 0 ≤ fromBe l ∧ fromBe l < 4294967296 := by
  have h1 := val_lt l h
  have h2 : 256 ^ l.length ≤ 256 ^ 4 := Nat.pow_le_pow_right (by decide) h4
  have h3 : (256 : Nat) ^ 4 = 4294967296 := by decide
  rw [fromBe_of l (by omega) (by omega)]
  omega
theorem ext_size (s : ByteArray) (a b : Nat) (h1 : a ≤ b) (h2 : b ≤ s.size) : (s.extract a b).size = b - a := by
  rw [ByteArray.size_extract, Nat.min_eq_left h2]
theorem fromN_range (s : ByteArray) (big : Bool) (h : s.size ≤ 4) : 0 ≤ fromN s big ∧ fromN s big < 4294967296 := by
  unfold fromN leI
  split
  · exact fromBe_four _ (by rw [bytesOf_length]; exact h) (bytesOf_lt s)
  · exact fromBe_four _ (by rw [List.length_reverse, bytesOf_length]; exact h) (fun b hb => bytesOf_lt s b (List.mem_reverse.1 hb))
theorem lenC_nonneg (s : ByteArray) (big : Bool) (long : Int) (h : 8 ≤ s.size) : 0 ≤ lenC s big long := by
  unfold lenC
  split
  · assumption
  · exact (fromN_range _ big (by rw [ext_size _ _ _ (by omega) h]; decide)).1
theorem oneN_le (s : ByteArray) (big : Bool) (long : Int) (h : oneB s big long = true) : 8 ≤ oneN s big long ∧ oneN s big long ≤ s.size := by
  unfold oneB at h
  obtain ⟨h1, h2⟩ := Bool.and_eq_true_iff.1 h
  obtain ⟨_, h3⟩ := Bool.and_eq_true_iff.1 h2
  have h1 := of_decide_eq_true h1
  have h3 := of_decide_eq_true h3
  have h0 := lenC_nonneg s big long h1
  unfold oneN
  split <;> omega

/-- The chunks of a text from a place on. -/
def chunksR (s : ByteArray) (big : Bool) : Nat → Nat → List Chk → List Chk × Int
  | 0, _, acc => (acc, 0)
  | fuel + 1, at', acc =>
    if at' < s.size then
      (if oneB (s.extract at' s.size) big (-1) then
        (if acc.length = 1024 then ([], 5) else chunksR s big fuel (at' + oneN (s.extract at' s.size) big (-1)) (acc ++ [oneC (s.extract at' s.size) big (-1)]))
      else ([], 2))
    else (acc, 0)
def chunksN (s : ByteArray) (big : Bool) : List Chk × Int := chunksR s big (s.size + 1) 0 []
theorem chunksR_end (s : ByteArray) (big : Bool) (fuel at' : Nat) (acc : List Chk) (h : ¬ at' < s.size) : chunksR s big (fuel + 1) at' acc = (acc, 0) := by
  rw [chunksR, if_neg h]
theorem chunksR_bad (s : ByteArray) (big : Bool) (fuel at' : Nat) (acc : List Chk) (h : at' < s.size) (hb : oneB (s.extract at' s.size) big (-1) = false) : chunksR s big (fuel + 1) at' acc = ([], 2) := by
  rw [chunksR, if_pos h, hb]
  rfl
theorem chunksR_many (s : ByteArray) (big : Bool) (fuel at' : Nat) (acc : List Chk) (h : at' < s.size) (hb : oneB (s.extract at' s.size) big (-1) = true) (hl : acc.length = 1024) : chunksR s big (fuel + 1) at' acc = ([], 5) := by
  rw [chunksR, if_pos h, hb, if_pos rfl, if_pos hl]
theorem chunksR_step (s : ByteArray) (big : Bool) (fuel at' : Nat) (acc : List Chk) (h : at' < s.size) (hb : oneB (s.extract at' s.size) big (-1) = true) (hl : ¬ acc.length = 1024) :
    chunksR s big (fuel + 1) at' acc = chunksR s big fuel (at' + oneN (s.extract at' s.size) big (-1)) (acc ++ [oneC (s.extract at' s.size) big (-1)]) := by
  rw [chunksR, if_pos h, hb, if_pos rfl, if_neg hl]

end Go.Proofs.YtaepgjheknkojaaGreat

namespace Go.Proofs.YtaepgjheknkojaaGreat
open Go.RowKit
set_option linter.unusedSimpArgs false
set_option linter.unusedVariables false

theorem all_byte_false (s : ByteArray) (i : Nat) (hi : i < s.size) (h : idByte (s[i]'hi).toNat = false) : idB s = false := by
  unfold idB
  have : (bytesOf s).all idByte = false := by
    rw [List.all_eq_false]
    refine ⟨(bytesOf s)[i]'(by rw [bytesOf_length]; exact hi), List.getElem_mem _, ?_⟩
    rw [bytesOf_get s i hi, h]
    decide
  rw [this]
  rfl
theorem all_byte_true (s : ByteArray) (h : ∀ i (hi : i < s.size), idByte (s[i]'hi).toNat = true) : idB s = decide (s.size = 4) := by
  unfold idB
  have : (bytesOf s).all idByte = true := by
    rw [List.all_eq_true]
    intro b hb
    obtain ⟨i, hi, rfl⟩ := List.mem_iff_getElem.1 hb
    rw [bytesOf_length] at hi
    rw [bytesOf_get s i hi]
    exact h i hi
  rw [this]
  rfl

set_option maxRecDepth 20000 in
set_option maxHeartbeats 1600000 in
theorem r6id_spec (s : ByteArray) (hs : s.size ≤ 200000000000000) (w : World) :
    Calls Tryz.prog 70 #[.string s] w fun e w' => e = .returned (.bool (idB s)) ∧ w' = w := by
  go_enter Tryz.func70, Tryz.ntmps70
  go_wp2_with fail
  go_loop [3] (fun t => ∃ k : Nat, k ≤ s.size ∧ t = .int .i64 (k : Int) ∧ ∀ i (hi : i < s.size), i < k → idByte (s[i]'hi).toNat = true) (fun t => s.size - (intOf t).toNat)
  case atStart => exact ⟨0, Nat.zero_le _, rfl, fun i hi h => absurd h (Nat.not_lt_zero _)⟩
  case round =>
    obtain ⟨k, hk, rfl, hall⟩ := hrel
    have HALL : Hid (∀ i (hi : i < s.size), i < k → idByte (s[i]'hi).toNat = true) := hall
    clear hall
    by_cases hlt : k < s.size
    · have hb : (s[k]'hlt).toNat < 256 := (s[k]'hlt).toNat_lt
      by_cases h1 : (s[k]'hlt).toNat < 32
      · have HN : Hid (idB s = false) := all_byte_false s k hlt (by unfold idByte; exact decide_eq_false (by omega))
        go_wp2_with fail
        go_ret
        exact ⟨by rw [HN.out]; rfl, rfl⟩
      · by_cases h2 : 126 < (s[k]'hlt).toNat
        · have HN : Hid (idB s = false) := all_byte_false s k hlt (by unfold idByte; exact decide_eq_false (by omega))
          go_wp2_with fail
          go_ret
          exact ⟨by rw [HN.out]; rfl, rfl⟩
        · have HA : Hid (∀ i (hi : i < s.size), i < k + 1 → idByte (s[i]'hi).toNat = true) := fun i hi h => by
            by_cases e : i = k
            · subst e
              unfold idByte
              exact decide_eq_true ⟨by omega, by omega⟩
            · exact HALL.out i hi (by omega)
          clear HALL
          go_wp2_with fail
          go_round
          case rel => exact ⟨k + 1, by omega, by go_num, HA.out⟩
          case measure => simp [intOf]; omega
    · have HY : Hid (idB s = ((s.size : Int) == 4)) := (all_byte_true s (fun i hi => HALL.out i hi (by omega))).trans (by
        rw [Bool.eq_iff_iff, decide_eq_true_iff, beq_iff_eq]
        omega)
      clear HALL
      go_wp2_with fail
      go_ret
      exact ⟨by rw [HY.out]; rfl, rfl⟩

set_option maxRecDepth 20000 in
set_option maxHeartbeats 1600000 in
theorem r6from_spec (s : ByteArray) (big : Bool) (hs : s.size ≤ 200000000000000) (w : World) :
    Calls Tryz.prog 79 #[.string s, .bool big] w fun e w' => e = .returned (.int .i64 (fromN s big)) ∧ Below w.heap.size w w' := by
  have kb := reffromBe_spec s hs
  have kl := reffromLe_spec s hs
  cases big
  · have HN : Hid (fromN s false = fromBe (bytesOf s).reverse) := rfl
    generalize fromBe (bytesOf s).reverse = n at *
    go_enter Tryz.func79, Tryz.ntmps79
    go_wp2_with fail
    refine (kl w).mono ?_
    rintro e w2 ⟨rfl, hB⟩
    go_wp2_with fail
    go_ret
    exact ⟨by rw [HN.out]; rfl, hB⟩
  · have HN : Hid (fromN s true = fromBe (bytesOf s)) := rfl
    generalize fromBe (bytesOf s) = n at *
    go_enter Tryz.func79, Tryz.ntmps79
    go_wp2_with fail
    refine (kb w).mono ?_
    rintro e w2 ⟨rfl, hB⟩
    go_wp2_with fail
    go_ret
    exact ⟨by rw [HN.out]; rfl, Below.refl _ _⟩

set_option maxRecDepth 20000 in
set_option maxHeartbeats 1600000 in
theorem r6to_spec (n : Int) (big : Bool) (h1 : -9223372036854775808 ≤ n) (h2 : n ≤ 9223372036854775807) (w : World) :
    Calls Tryz.prog 71 #[.int .i64 n, .bool big] w fun e w' => e = .returned (.string (toT n big)) ∧ Below w.heap.size w w' := by
  have kb := fun w => refbe_spec n 4 h1 h2 w
  have kl := refle_spec n 4 h1 h2 w
  cases big
  · have HN : Hid (toT n false = leT n 4) := rfl
    generalize leT n 4 = T at *
    generalize wE n 4 = E at *
    go_enter Tryz.func71, Tryz.ntmps71
    go_wp2_with fail
    refine kl.mono ?_
    rintro e w2 ⟨rfl, hB⟩
    have HB : Hid (Below w.heap.size w w2) := hB
    clear hB kl kb
    go_wp2_with fail
    go_ret
    exact ⟨by rw [HN.out]; rfl, HB.out⟩
  · have HN : Hid (toT n true = beT n 4) := rfl
    generalize leT n 4 = T at *
    generalize beT n 4 = U at *
    generalize wE n 4 = E at *
    go_enter Tryz.func71, Tryz.ntmps71
    go_wp2_with fail
    refine kl.mono ?_
    rintro e w2 ⟨rfl, hB⟩
    have HB : Hid (Below w.heap.size w w2) := hB
    have kb2 := kb w2
    clear hB kl kb
    go_wp2_with fail
    refine kb2.mono ?_
    rintro e w3 ⟨rfl, hB3⟩
    have HB3 : Hid (Below w.heap.size w w3) := HB.out.trans (hB3.mono HB.out.size)
    clear hB3 kb2
    go_wp2_with fail
    go_ret
    exact ⟨by rw [HN.out]; rfl, HB3.out⟩

end Go.Proofs.YtaepgjheknkojaaGreat
