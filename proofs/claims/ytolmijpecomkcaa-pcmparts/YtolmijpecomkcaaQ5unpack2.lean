/- Own text: what Unpack's closure does, sample by sample. -/
import Derived.Test.YtolmijpecomkcaaQ5unpack
namespace Go.Proofs.Ytolmijpecomkcaa
open Go.RowKit
set_option linter.unusedSimpArgs false
set_option linter.unusedVariables false

theorem ext_low (s : ByteArray) (a k : Nat) (h : a + k ≤ s.size) : (s.extract a s.size).extract 0 k = s.extract a (a + k) := by
  rw [ByteArray.extract_extract, Nat.add_zero, Nat.min_eq_left h]
theorem ext_high (s : ByteArray) (a k : Nat) (h : a + k ≤ s.size) : (s.extract a s.size).extract k (s.extract a s.size).size = s.extract (a + k) s.size := by
  rw [ByteArray.size_extract, ByteArray.extract_extract]
  congr 1
  omega
theorem Uc.drewN {w0 w : World} {C : Nat} {wd : Int} {big uns : Bool} {r : ByteArray} (h : Uc w0 C wd big uns r w) (q : Nat) : Uc w0 C wd big uns r (w.drewN q) :=
  ⟨h.sb, h.wb, h.res, h.cb, h.lt, ⟨h.below.os, h.below.tape, h.below.output, h.below.size, h.below.block⟩⟩
theorem decM_range (wd : Int) (uns : Bool) (m : Nat) (h4 : 4 ≤ wd) (h32 : wd ≤ 32) (hm : m < 4294967296) : -9223372036854775808 ≤ decM wd uns m ∧ decM wd uns m ≤ 9223372036854775807 := by
  have h1 := pow33 (wd - 1).toNat (by omega)
  have hn := nby_range wd h4 h32
  have h2 := pow33 (8 * nby wd) (by omega)
  unfold decM
  split
  · omega
  · split <;> omega
theorem numM_range (s : ByteArray) (wd : Int) (big uns : Bool) (i : Nat) (h4 : 4 ≤ wd) (h32 : wd ≤ 32) : -9223372036854775808 ≤ numM s wd big uns i ∧ numM s wd big uns i ≤ 9223372036854775807 := by
  apply decM_range wd uns _ h4 h32
  have hn := nby_range wd h4 h32
  have hsz : (s.extract (i * nby wd) (i * nby wd + nby wd)).size ≤ 4 := by rw [ByteArray.size_extract]; omega
  have hp : ∀ k, k ≤ 4 → 256 ^ k ≤ 4294967296 := fun k hk => Nat.le_trans (Nat.pow_le_pow_right (by decide) hk) (by decide)
  unfold rawN
  split
  · exact Nat.lt_of_lt_of_le (val_lt _ (bytesOf_lt _)) (hp _ (by rw [bytesOf_length]; exact hsz))
  · exact Nat.lt_of_lt_of_le (val_lt _ (fun x hx => bytesOf_lt _ x (List.mem_reverse.1 hx))) (hp _ (by rw [List.length_reverse, bytesOf_length]; exact hsz))

/-- What Unpack's planes are behind t samples. -/
def soM (s : ByteArray) (wd : Int) (big uns : Bool) (c t : Nat) : Nat → Nat → Int := fun k i => if i * c + k < t then numM s wd big uns (i * c + k) else 0

set_option maxHeartbeats 1600000 in
theorem unpackTurn (w0 : World) (C B : Nat) (hCB : C < B) (s : ByteArray) (wd : Int) (big uns : Bool) (h4 : 4 ≤ wd) (h32 : wd ≤ 32) (c n : Nat) (hsz : n * c * nby wd = s.size) :
    Turn B 0 n c (fun k => some ⟨B + 1 + k, 0, none⟩) (fun _ => n) 34 #[.pointer (some ⟨C, 0, none⟩), .pointer (some ⟨w0.heap.size, 0, none⟩), .pointer (some ⟨w0.heap.size + 1, 0, none⟩)]
      (fun t wx => t ≤ n * c ∧ Mat B c n (soM s wd big uns c t) wx ∧ Uc w0 C wd big uns (s.extract (t * nby wd) s.size) wx ∧ ∀ j, j < t → sampB (numM s wd big uns j) wd = true)
      (fun wx => (∃ j, j < n * c ∧ sampB (numM s wd big uns j) wd = false) ∧ ∃ r, Uc w0 C wd big uns r wx) := by
  refine ⟨fun t wx hI k hk => by rw [Nat.zero_add]; exact hI.2.1.outer.cell hk, fun h0 k hk => ⟨_, _, rfl⟩, fun i k wx hi hk hI b' o' he => ?_⟩
  have e' : B + 1 + k = b' ∧ 0 = o' := by
    injection he with he
    injection he with e1 e2
    exact ⟨e1, e2⟩
  obtain ⟨rfl, rfl⟩ := e'
  obtain ⟨htn, hM, hU, hok⟩ := hI
  have hlt : i * c + k < n * c := by
    have : i * c + k < (i + 1) * c := by rw [Nat.succ_mul]; omega
    exact Nat.lt_of_lt_of_le this (Nat.mul_le_mul_right _ hi)
  have hfit : (i * c + k) * nby wd + nby wd ≤ s.size := by
    rw [← Nat.succ_mul, ← hsz]
    exact Nat.mul_le_mul_right _ hlt
  have hold : wx.cell? ⟨B + 1 + k, 0 + i, none⟩ = some (.int .i64 0) := by
    rw [Nat.zero_add, (hM.inner k hk).cell hi]
    unfold soM
    rw [if_neg (Nat.lt_irrefl _)]
  have hfz : wx.frozen? ⟨B + 1 + k, 0 + i, none⟩ = false := (hM.inner k hk).frozen _
  refine (unpackC_spec w0 wx C wd big uns _ (B + 1 + k) (0 + i) 0 h4 h32 (by rw [ByteArray.size_extract]; omega) hU (by omega) hold hfz).mono ?_
  rintro e w' ⟨rfl, w1, q, hB, rfl⟩
  rw [ext_low s _ _ hfit, ext_high s _ _ hfit, ← Nat.succ_mul, Nat.zero_add]
  have hx : decM wd uns (rawN (s.extract ((i * c + k) * nby wd) ((i * c + k) * nby wd + nby wd)) big) = numM s wd big uns (i * c + k) := rfl
  rw [← Nat.succ_mul] at hx
  rw [hx]
  have hU2 := (((hU.next hB).set ⟨B + 1 + k, i, none⟩ (.int .i64 (numM s wd big uns (i * c + k))) (by simp; omega)).text (s.extract ((i * c + k).succ * nby wd) s.size)).drewN q
  have hlC := hU.lt
  cases hsb : sampB (numM s wd big uns (i * c + k)) wd with
  | false => exact Or.inr ⟨rfl, ⟨_, hlt, hsb⟩, _, hU2⟩
  | true =>
    refine Or.inl ⟨rfl, hlt, ⟨?_, fun l hl => ?_⟩, hU2, fun j hj => ?_⟩
    · have h1 := hM.outer.of_block (hB.block _ hM.outer.lt)
      exact ((h1.setOther (show B ≠ B + 1 + k by omega) _).setOther (show B ≠ w0.heap.size by omega) _).of_block rfl
    · have h1 := (hM.inner l hl).of_block (hB.block _ (hM.inner l hl).lt)
      by_cases e : l = k
      · subst e
        refine (((h1.set i _).setOther (show B + 1 + l ≠ w0.heap.size by omega) _).of_block rfl : World.rowIs _ _ _ _ _).congr fun j hj => ?_
        unfold soM
        by_cases ej : j = i
        · rw [if_pos ej, ej, if_pos (Nat.lt_succ_self _)]
        · rw [if_neg ej]
          by_cases hjt : j * c + l < i * c + l
          · rw [if_pos hjt, if_pos (by omega)]
          · rw [if_neg hjt, if_neg (fun h => hjt (split_t c i l j l hk hl h (fun q => ej q.1)))]
      · refine (((h1.setOther (show B + 1 + l ≠ B + 1 + k by omega) _).setOther (show B + 1 + l ≠ w0.heap.size by omega) _).of_block rfl : World.rowIs _ _ _ _ _).congr fun j hj => ?_
        unfold soM
        by_cases hjt : j * c + l < i * c + k
        · rw [if_pos hjt, if_pos (by omega)]
        · rw [if_neg hjt, if_neg (fun h => hjt (split_t c i k j l hk hl h (fun q => e q.2)))]
    · by_cases ej : j = i * c + k
      · rw [ej]
        exact hsb
      · exact hok j (by omega)

end Go.Proofs.Ytolmijpecomkcaa
