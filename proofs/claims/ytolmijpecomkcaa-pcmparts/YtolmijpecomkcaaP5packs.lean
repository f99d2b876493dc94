/- Own text: samples as bytes, plain laws. -/
import Derived.Test.YtolmijpecomkcaaP5data
import Derived.Test.YtolmijpecomkcaaPlain
namespace Go.Proofs.Ytolmijpecomkcaa
open Go.RowKit
set_option linter.unusedSimpArgs false
set_option linter.unusedVariables false

def nby (wd : Int) : Nat := ((wd + 7) / 8).toNat
def codeN (wd : Int) (uns : Bool) (n : Int) : Int := if uns then n + 2 ^ (wd - 1).toNat else if n < 0 then n + 2 ^ (8 * nby wd) else n
def codeL (big : Bool) (wd : Int) (uns : Bool) (n : Int) : List Nat := if big then highL (codeN wd uns n).toNat (nby wd) else lowL (codeN wd uns n).toNat (nby wd)
/-- The first k channels of sample i. -/
def frameL (p : Pcm) (big uns : Bool) (i k : Nat) : List Nat := (List.range k).flatMap fun c => codeL big p.wd uns ((p.pl.getD c []).getD i 0)
/-- The first i samples. -/
def packL (p : Pcm) (big uns : Bool) (i : Nat) : List Nat := (List.range i).flatMap fun j => frameL p big uns j p.ch.toNat

theorem codeL_length (big : Bool) (wd : Int) (uns : Bool) (n : Int) : (codeL big wd uns n).length = nby wd := by
  unfold codeL
  split
  · rw [highL_length]
  · rw [lowL_length]
theorem codeL_lt (big : Bool) (wd : Int) (uns : Bool) (n : Int) : ∀ b ∈ codeL big wd uns n, b < 256 := by
  unfold codeL
  split
  · exact highL_lt _ _
  · exact lowL_lt _ _
theorem frameL_succ (p : Pcm) (big uns : Bool) (i k : Nat) : frameL p big uns i (k + 1) = frameL p big uns i k ++ codeL big p.wd uns ((p.pl.getD k []).getD i 0) := by
  unfold frameL
  rw [List.range_succ, List.flatMap_append]
  simp
theorem packL_succ (p : Pcm) (big uns : Bool) (i : Nat) : packL p big uns (i + 1) = packL p big uns i ++ frameL p big uns i p.ch.toNat := by
  unfold packL
  rw [List.range_succ, List.flatMap_append]
  simp
theorem frameL_length (p : Pcm) (big uns : Bool) (i : Nat) : ∀ k, (frameL p big uns i k).length = k * nby p.wd
  | 0 => by rw [Nat.zero_mul]; rfl
  | k + 1 => by rw [frameL_succ, List.length_append, frameL_length p big uns i k, codeL_length, Nat.succ_mul]
theorem packL_length (p : Pcm) (big uns : Bool) : ∀ i, (packL p big uns i).length = i * (p.ch.toNat * nby p.wd)
  | 0 => by rw [Nat.zero_mul]; rfl
  | i + 1 => by rw [packL_succ, List.length_append, packL_length p big uns i, frameL_length, Nat.succ_mul]
theorem frameL_lt (p : Pcm) (big uns : Bool) (i k : Nat) : ∀ b ∈ frameL p big uns i k, b < 256 := by
  intro b hb
  obtain ⟨c, _, h⟩ := List.mem_flatMap.1 hb
  exact codeL_lt _ _ _ _ b h
theorem packL_lt (p : Pcm) (big uns : Bool) (i : Nat) : ∀ b ∈ packL p big uns i, b < 256 := by
  intro b hb
  obtain ⟨c, _, h⟩ := List.mem_flatMap.1 hb
  exact frameL_lt _ _ _ _ _ b h

theorem nby_range (wd : Int) (h4 : 4 ≤ wd) (h32 : wd ≤ 32) : 1 ≤ nby wd ∧ nby wd ≤ 4 ∧ wd ≤ 8 * (nby wd : Int) ∧ (nby wd : Int) = (wd + 7) / 8 := by
  unfold nby
  omega

theorem pow_eq (k : Nat) : (2 : Int) ^ k = ((2 ^ k : Nat) : Int) := by simp
theorem pow256 (k : Nat) : (2 : Nat) ^ (8 * k) = 256 ^ k := by rw [Nat.pow_mul]

/-- A sample's code fits its bytes. -/
theorem codeN_fits (wd : Int) (uns : Bool) (n : Int) (h4 : 4 ≤ wd) (h32 : wd ≤ 32) (hs : sampB n wd = true) : 0 ≤ codeN wd uns n ∧ codeN wd uns n < 256 ^ nby wd ∧ codeN wd uns n ≤ 4294967295 := by
  obtain ⟨n1, n2, n3, n4⟩ := nby_range wd h4 h32
  have hs' := of_decide_eq_true hs
  have hp : (2 : Nat) ^ (wd - 1).toNat * 2 ≤ 256 ^ nby wd := by
    rw [← pow256, ← Nat.pow_succ]
    exact Nat.pow_le_pow_right (by decide) (by omega)
  have hq : 256 ^ nby wd ≤ 256 ^ 4 := Nat.pow_le_pow_right (by decide) n2
  have e4 : (256 : Nat) ^ 4 = 4294967296 := by decide
  have eI : (256 : Int) ^ nby wd = ((256 ^ nby wd : Nat) : Int) := by simp
  rw [eI]
  unfold codeN
  rw [pow_eq, pow_eq] at *
  rw [pow256]
  have h0 : 0 < 2 ^ (wd - 1).toNat := Nat.pow_pos (by decide)
  generalize (2 : Nat) ^ (wd - 1).toNat = H at *
  generalize (256 : Nat) ^ nby wd = M at *
  split
  · omega
  · split <;> omega

end Go.Proofs.Ytolmijpecomkcaa
