/- Own text. -/
import Derived.Test.YtfpfabmbipmipaaGreatDoorA14
import Derived.Laws.BytesArg
import Derived.Deep.WholeRow
import Derived.Laws.ResultCell
import Derived.Deep.Cut
set_option linter.unusedSimpArgs false
set_option linter.unusedVariables false
set_option maxRecDepth 20000
set_option maxHeartbeats 12800000
namespace Go.Proofs.YtfpfabmbipmipaaGreatDoor
open Go.RowKit
section
variable {w : Nat}
def bstep (p n : BitVec w) (b : Bool) : BitVec w := (n <<< 1) ^^^ (if n.msb != b then p else 0#w)
theorem xor_if (p a b : BitVec w) (s t : Bool) : (a ^^^ b) ^^^ (if (s ^^ t) then p else 0#w) = (a ^^^ (if s then p else 0#w)) ^^^ (b ^^^ (if t then p else 0#w)) := by
 apply BitVec.eq_of_getLsbD_eq
 intro i hi
 cases s <;> cases t <;> simp only [BitVec.getLsbD_xor, Bool.xor_false, Bool.false_xor, Bool.true_xor, Bool.not_true, Bool.not_false, Bool.xor_true, if_true, if_false, Bool.false_eq_true, BitVec.getLsbD_zero] <;>
  cases a.getLsbD i <;> cases b.getLsbD i <;> cases p.getLsbD i <;> rfl
theorem bstep_xor (p n m : BitVec w) (b c : Bool) : bstep p (n ^^^ m) (b ^^ c) = bstep p n b ^^^ bstep p m c := by
 unfold bstep
 rw [BitVec.msb_xor, BitVec.shiftLeft_xor_distrib, <- xor_if]
 congr 2
 cases n.msb <;> cases m.msb <;> cases b <;> cases c <;> rfl
theorem bstep_own (p n : BitVec w) : bstep p n n.msb = n <<< 1 := by
 unfold bstep
 simp
theorem bstep_zero (p d : BitVec w) (hp : p.getLsbD 0 = true) (h : bstep p d false = 0#w) : d = 0#w := by
 have hw : 0 < w := by
  rcases Nat.eq_zero_or_pos w with h0 | h0
  ·subst h0
   simp at hp
  ·exact h0
 have hm : d.msb = false := by
  have h0 := congrArg (fun x => x.getLsbD 0) h
  unfold bstep at h0
  cases hd : d.msb with
  | false => rfl
  | true =>
   simp [hd, BitVec.getLsbD_xor, BitVec.getLsbD_shiftLeft] at h0
   rw [hp] at h0
   cases h0
 have hs : d <<< 1 = 0#w := by
  unfold bstep at h
  simpa [hm] using h
 apply BitVec.eq_of_getLsbD_eq
 intro i hi
 by_cases hl : i + 1 < w
 ·have h1 := congrArg (fun x => x.getLsbD (i + 1)) hs
  simp [BitVec.getLsbD_shiftLeft, hl] at h1
  rw [BitVec.getLsbD_eq_getElem hi]
  simpa using h1
 ·have e : i = w - 1 := by omega
  have h2 : d.getLsbD (w - 1) = false := by
   rw [<- BitVec.msb_eq_getLsbD_last]
   exact hm
  rw [e, h2]
  simp
theorem bstep_inj (p n m : BitVec w) (b : Bool) (hp : p.getLsbD 0 = true) (h : bstep p n b = bstep p m b) : n = m := by
 have e := bstep_xor p n m b b
 rw [h, BitVec.xor_self, Bool.xor_self] at e
 have := bstep_zero p _ hp e
 have h2 : n ^^^ m ^^^ m = 0#w ^^^ m := by rw [this]
 simpa [BitVec.xor_assoc] using h2
def bfold (p n : BitVec w) (l : List Bool) : BitVec w := l.foldl (bstep p) n
theorem bfold_inj (p : BitVec w) (hp : p.getLsbD 0 = true) : ∀ (l : List Bool) (n m : BitVec w), bfold p n l = bfold p m l -> n = m
 | [], _, _, h => h
 | b :: l, n, m, h => bstep_inj p n m b hp (bfold_inj p hp l _ _ h)
theorem bfold_append (p n : BitVec w) (l k : List Bool) : bfold p n (l ++ k) = bfold p (bfold p n l) k := by
 unfold bfold
 rw [List.foldl_append]
def bits8 (b : Nat) : List Bool := [b.testBit 7, b.testBit 6, b.testBit 5, b.testBit 4, b.testBit 3, b.testBit 2, b.testBit 1, b.testBit 0]
def byteStep (p n : BitVec w) (b : Nat) : BitVec w := bfold p n (bits8 b)
theorem byteStep_xor (p n m : BitVec w) (b c : Nat) : byteStep p (n ^^^ m) (b ^^^ c) = byteStep p n b ^^^ byteStep p m c := by
 simp only [byteStep, bfold, bits8, List.foldl_cons, List.foldl_nil, Nat.testBit_xor, bstep_xor]
theorem byteStep_inj (p n m : BitVec w) (b : Nat) (hp : p.getLsbD 0 = true) (h : byteStep p n b = byteStep p m b) : n = m := bfold_inj p hp _ _ _ h
def crcL (p n : BitVec w) (l : List Nat) : BitVec w := l.foldl (byteStep p) n
theorem crcL_append (p n : BitVec w) (l k : List Nat) : crcL p n (l ++ k) = crcL p (crcL p n l) k := by
 unfold crcL
 rw [List.foldl_append]
theorem crcL_inj (p : BitVec w) (hp : p.getLsbD 0 = true) : ∀ (l : List Nat) (n m : BitVec w), crcL p n l = crcL p m l -> n = m
 | [], _, _, h => h
 | b :: l, n, m, h => byteStep_inj p n m b hp (crcL_inj p hp l _ _ h)
theorem crcL_spoilt (p : BitVec w) (hp : p.getLsbD 0 = true) (h8 : ∀ d, d < 256 -> byteStep p 0#w d = 0#w -> d = 0) (n : BitVec w) (l k : List Nat) (b c : Nat) (hb : b < 256) (hc : c < 256) (hne : b ≠ c) :
  crcL p n (l ++ b :: k) ≠ crcL p n (l ++ c :: k) := by
 intro h
 rw [crcL_append, crcL_append] at h
 have h1 : byteStep p (crcL p n l) b = byteStep p (crcL p n l) c := crcL_inj p hp k _ _ h
 have e := byteStep_xor p (crcL p n l) (crcL p n l) b c
 rw [h1, BitVec.xor_self, BitVec.xor_self] at e
 have hd := h8 (b ^^^ c) (Nat.xor_lt_two_pow (n := 8) hb hc) e
 apply hne
 have h2 : b ^^^ c ^^^ c = 0 ^^^ c := by rw [hd]
 simpa [Nat.xor_assoc] using h2
def ownBits (n : BitVec w) (k : Nat) : List Bool := (List.range k).map fun j => (n <<< j).msb
theorem bfold_own (p n : BitVec w) : ∀ k, bfold p n (ownBits n k) = n <<< k
 | 0 => by simp [ownBits, bfold]
 | k + 1 => by
  have e : ownBits n (k + 1) = ownBits n k ++ [(n <<< k).msb] := by simp [ownBits, List.range_succ]
  rw [e, bfold_append, bfold_own p n k]
  show bstep p (n <<< k) (n <<< k).msb = _
  rw [bstep_own, <- BitVec.shiftLeft_add]
theorem shl_msb (n : BitVec w) (j : Nat) (h : j < w) : (n <<< j).msb = n.getLsbD (w - 1 - j) := by
 rw [BitVec.msb_eq_getLsbD_last, BitVec.getLsbD_shiftLeft]
 have h1 : w - 1 < w := by omega
 have h2 : ¬ w - 1 < j := by omega
 simp [h1, h2]
theorem ownBits_byte (n : BitVec w) (s : Nat) (h : s + 8 <= w) : (List.range 8).map (fun j => n.getLsbD (s + 7 - j)) = bits8 (n.toNat / 2 ^ s % 256) := by
 have hb : ∀ i, i < 8 -> (n.toNat / 2 ^ s % 256).testBit i = n.getLsbD (s + i) := by
  intro i hi
  rw [show (256 : Nat) = 2 ^ 8 from rfl, Nat.testBit_mod_two_pow, Nat.testBit_div_two_pow, BitVec.getLsbD]
  simp [hi, Nat.add_comm]
 simp only [bits8, hb 7 (by omega), hb 6 (by omega), hb 5 (by omega), hb 4 (by omega), hb 3 (by omega), hb 2 (by omega), hb 1 (by omega), hb 0 (by omega)]
 rfl
theorem byteStep_own (p n : BitVec w) (h : 8 <= w) : byteStep p n (n.toNat / 2 ^ (w - 8) % 256) = n <<< 8 := by
 have e := ownBits_byte n (w - 8) (by omega)
 have e2 : ownBits n 8 = (List.range 8).map (fun j => n.getLsbD (w - 8 + 7 - j)) := by
  unfold ownBits
  apply List.map_congr_left
  intro j hj
  have hj' : j < 8 := by simpa using hj
  rw [shl_msb n j (by omega)]
  congr 1
  omega
 unfold byteStep
 rw [<- e, <- e2, bfold_own]
theorem byteStep_table (p n : BitVec w) (b : Nat) (h : 8 <= w) : byteStep p n b = (n <<< 8) ^^^ byteStep p 0#w (n.toNat / 2 ^ (w - 8) % 256 ^^^ b) := by
 rw [<- byteStep_own p n h, <- byteStep_xor, BitVec.xor_zero, <- Nat.xor_assoc, Nat.xor_self, Nat.zero_xor]
end
section
variable {w : Nat}
def rstep (q n : BitVec w) : BitVec w := (n >>> 1) ^^^ (if n.getLsbD 0 then q else 0#w)
def r8 (q n : BitVec w) : BitVec w := rstep q (rstep q (rstep q (rstep q (rstep q (rstep q (rstep q (rstep q n)))))))
end
def p8 : BitVec 8 := 0x07#8
def p16 : BitVec 16 := 0x8005#16
theorem odd16 : p16.getLsbD 0 = true := by decide
theorem told16 : ∀ d, d < 256 -> byteStep p16 0#16 d = 0#16 -> d = 0 := fun d hd => (by decide +kernel : ∀ d : Fin 256, byteStep p16 0#16 d.val = 0#16 -> d.val = 0) ⟨d, hd⟩
theorem i64_xor_nat (a b : Nat) (ha : a < 9223372036854775808) (hb : b < 9223372036854775808) : bits .xor .i64 (a : Int) (b : Int) = ((a ^^^ b : Nat) : Int) := by
 show IntKind.i64.wrap ((BitVec.ofInt 64 (a : Int) ^^^ BitVec.ofInt 64 (b : Int)).toNat : Int) = _
 rw [BitVec.toNat_xor, BitVec.toNat_ofInt, BitVec.toNat_ofInt]
 have ea : ((a : Int) % ((2 ^ 64 : Nat) : Int)).toNat = a := by omega
 have eb : ((b : Int) % ((2 ^ 64 : Nat) : Int)).toNat = b := by omega
 rw [ea, eb]
 have hl : a ^^^ b < 2 ^ 63 := Nat.xor_lt_two_pow ha hb
 rw [IntKind.wrap_i64]
 omega
theorem i64_and_nat (a b : Nat) (ha : a < 9223372036854775808) (hb : b < 9223372036854775808) : bits .and .i64 (a : Int) (b : Int) = ((a &&& b : Nat) : Int) := by
 show IntKind.i64.wrap ((BitVec.ofInt 64 (a : Int) &&& BitVec.ofInt 64 (b : Int)).toNat : Int) = _
 rw [BitVec.toNat_and, BitVec.toNat_ofInt, BitVec.toNat_ofInt]
 have ea : ((a : Int) % ((2 ^ 64 : Nat) : Int)).toNat = a := by omega
 have eb : ((b : Int) % ((2 ^ 64 : Nat) : Int)).toNat = b := by omega
 rw [ea, eb]
 have hl : a &&& b < 2 ^ 63 := Nat.and_lt_two_pow _ hb
 rw [IntKind.wrap_i64]
 omega
def clen (n : Nat) : Nat :=
 if n < 128 then 1 else if n < 2048 then 2 else if n < 65536 then 3 else if n < 2097152 then 4 else if n < 67108864 then 5 else if n < 2147483648 then 6 else 7
def hm (k : Nat) : Nat := if k = 1 then 0 else 256 - 2 ^ (8 - k)
def hc (b : Nat) : Nat :=
 if b < 128 then 1 else if b < 192 then 0 else if b < 224 then 2 else if b < 240 then 3 else if b < 248 then 4 else if b < 252 then 5 else if b < 254 then 6 else if b < 255 then 7 else 0
def cbound (k : Nat) : Nat := if k = 1 then 128 else 2 ^ (5 * k + 1)
theorem clen_range (n : Nat) : 1 <= clen n /\ clen n <= 7 := by unfold clen; (repeat' split) <;> omega
theorem seven (k : Nat) (h1 : 1 <= k) (h7 : k <= 7) : k = 1 ∨ k = 2 ∨ k = 3 ∨ k = 4 ∨ k = 5 ∨ k = 6 ∨ k = 7 := by omega
theorem clen_le (n k : Nat) (h1 : 1 <= k) (h7 : k <= 7) (h : n < cbound k) : clen n <= k := by
 unfold clen
 rcases seven k h1 h7 with rfl | rfl | rfl | rfl | rfl | rfl | rfl <;> simp [cbound] at h <;> (repeat' split) <;> omega
theorem clen_bound (n : Nat) (h : n < 68719476736) : n < cbound (clen n) := by
 unfold clen
 repeat' split
 all_goals (simp [cbound]; omega)
theorem cbound_le (k : Nat) (h1 : 1 <= k) (h7 : k <= 7) : cbound k <= 68719476736 := by
 rcases seven k h1 h7 with rfl | rfl | rfl | rfl | rfl | rfl | rfl <;> simp [cbound]
def codeAt (n k j : Nat) : Nat := if j = 0 then hm k + n / 64 ^ (k - 1) else 128 + n / 64 ^ (k - 1 - j) % 64
def codeL (n k : Nat) : List Nat := (List.range k).map (codeAt n k)
theorem codeL_length (n k : Nat) : (codeL n k).length = k := by simp [codeL]
theorem top_lt (n k : Nat) (h1 : 1 <= k) (h7 : k <= 7) (h : n < cbound k) : n / 64 ^ (k - 1) < (if k = 1 then 128 else 2 ^ (7 - k)) := by
 rcases seven k h1 h7 with rfl | rfl | rfl | rfl | rfl | rfl | rfl <;> simp [cbound] at h ⊢ <;> omega
theorem codeAt_lt (n k j : Nat) (h1 : 1 <= k) (h7 : k <= 7) (h : n < cbound k) : codeAt n k j < 256 := by
 have ht := top_lt n k h1 h7 h
 unfold codeAt hm
 split
 ·rcases seven k h1 h7 with rfl | rfl | rfl | rfl | rfl | rfl | rfl <;> simp at ht ⊢ <;> omega
 ·have := Nat.mod_lt (n / 64 ^ (k - 1 - j)) (show 64 > 0 by decide)
  omega
theorem codeL_lt (n k : Nat) (h1 : 1 <= k) (h7 : k <= 7) (h : n < cbound k) : ∀ b ∈ codeL n k, b < 256 := by
 intro b hb
 obtain ⟨j, _, rfl⟩ := List.mem_map.1 hb
 exact codeAt_lt n k j h1 h7 h
theorem hc_code (n k : Nat) (h1 : 1 <= k) (h7 : k <= 7) (h : n < cbound k) : hc (codeAt n k 0) = k /\ codeAt n k 0 - hm k = n / 64 ^ (k - 1) := by
 have ht := top_lt n k h1 h7 h
 have all : ∀ k : Fin 8, ∀ q : Fin 128, 1 <= k.val -> q.val < (if k.val = 1 then 128 else 2 ^ (7 - k.val)) -> hc (hm k.val + q.val) = k.val := by decide +kernel
 have hq : n / 64 ^ (k - 1) < 128 := by
  rcases seven k h1 h7 with rfl | rfl | rfl | rfl | rfl | rfl | rfl <;> simp at ht ⊢ <;> omega
 unfold codeAt
 rw [if_pos rfl]
 exact ⟨all ⟨k, by omega⟩ ⟨n / 64 ^ (k - 1), hq⟩ h1 ht, Nat.add_sub_cancel_left ..⟩
def unc (l : List Nat) : Nat -> Nat -> Nat -> Nat × Nat
 | 0, _, n => (n, 0)
 | m + 1, i, n => if l.length <= i then (0, 10) else if l.getD i 0 < 128 ∨ 192 <= l.getD i 0 then (0, 2) else unc l m (i + 1) (n * 64 + (l.getD i 0 - 128))
theorem unc_end (l : List Nat) (i n : Nat) : unc l 0 i n = (n, 0) := rfl
theorem unc_short (l : List Nat) (m i n : Nat) (h : l.length <= i) : unc l (m + 1) i n = (0, 10) := by unfold unc; rw [if_pos h]
theorem unc_bad (l : List Nat) (m i n : Nat) (h : ¬ l.length <= i) (hb : l.getD i 0 < 128 ∨ 192 <= l.getD i 0) : unc l (m + 1) i n = (0, 2) := by unfold unc; rw [if_neg h, if_pos hb]
theorem unc_step (l : List Nat) (m i n : Nat) (h : ¬ l.length <= i) (hb : ¬ (l.getD i 0 < 128 ∨ 192 <= l.getD i 0)) : unc l (m + 1) i n = unc l m (i + 1) (n * 64 + (l.getD i 0 - 128)) := by
 conv => lhs; unfold unc
 rw [if_neg h, if_neg hb]
def uncEnd (k : Nat) (r : Nat × Nat) : Nat × Nat × Nat := if r.2 ≠ 0 then (0, 0, r.2) else if clen r.1 < k then (0, 0, 2) else (r.1, k, 0)
def uncode (l : List Nat) : Nat × Nat × Nat :=
 if l.length = 0 then (0, 0, 10) else if hc (l.getD 0 0) = 0 then (0, 0, 2) else uncEnd (hc (l.getD 0 0)) (unc l (hc (l.getD 0 0) - 1) 1 (l.getD 0 0 - hm (hc (l.getD 0 0))))
theorem unc_read (l : List Nat) (n : Nat) : ∀ (m i : Nat), i + m <= l.length -> (∀ t, t < m -> l.getD (i + t) 0 = 128 + n / 64 ^ (m - 1 - t) % 64) -> unc l m i (n / 64 ^ m) = (n, 0) := by
 intro m
 induction m with
 | zero => intro i _ _; simp [unc]
 | succ m ih =>
  intro i hl hb
  have h0 := hb 0 (by omega)
  simp only [Nat.add_zero, Nat.sub_zero, Nat.add_sub_cancel] at h0
  have hmod := Nat.mod_lt (n / 64 ^ m) (show 64 > 0 by decide)
  rw [unc_step l m i _ (by omega) (by rw [h0]; omega), h0]
  have e : n / 64 ^ (m + 1) * 64 + (128 + n / 64 ^ m % 64 - 128) = n / 64 ^ m := by
   rw [Nat.pow_succ, <- Nat.div_div_eq_div_mul]
   omega
  rw [e]
  refine ih (i + 1) (by omega) (fun t ht => ?_)
  have := hb (t + 1) (by omega)
  rw [show i + 1 + t = i + (t + 1) from by omega, this, show m + 1 - 1 - (t + 1) = m - 1 - t from by omega]
theorem code_getD (n k j : Nat) (rest : List Nat) (h : j < k) : (codeL n k ++ rest).getD j 0 = codeAt n k j := by
 rw [List.getD_eq_getElem?_getD, List.getElem?_append_left (by rw [codeL_length]; exact h), List.getElem?_eq_getElem (by rw [codeL_length]; exact h)]
 simp [codeL]
theorem uncode_code (n : Nat) (h : n < 68719476736) (rest : List Nat) : uncode (codeL n (clen n) ++ rest) = (n, clen n, 0) := by
 have hr := clen_range n
 have hb := clen_bound n h
 obtain ⟨k, hk⟩ : ∃ k, k = clen n := ⟨_, rfl⟩
 rw [<- hk] at hr hb ⊢
 obtain ⟨e1, e2⟩ := hc_code n k hr.1 hr.2 hb
 unfold uncode
 rw [code_getD n k 0 rest (by omega), e1, e2, if_neg (by rw [List.length_append, codeL_length]; omega), if_neg (by omega)]
 rw [unc_read (codeL n k ++ rest) n (k - 1) 1 (by rw [List.length_append, codeL_length]; omega) (fun t ht => ?_)]
 ·unfold uncEnd
  rw [if_neg (by simp), if_neg (by simp [<- hk])]
 ·rw [code_getD n k (1 + t) rest (by omega)]
  unfold codeAt
  rw [if_neg (by omega), show k - 1 - (1 + t) = k - 1 - 1 - t from by omega]
theorem hc_range (b : Nat) : hc b <= 7 := by unfold hc; (repeat' split) <;> omega
theorem hc_first (b : Nat) (hb : b < 256) (h : hc b ≠ 0) : hm (hc b) <= b /\ (b - hm (hc b) + 1) * 64 ^ (hc b - 1) <= cbound (hc b) := by
 have all : ∀ c : Fin 256, hc c.val ≠ 0 -> hm (hc c.val) <= c.val /\ (c.val - hm (hc c.val) + 1) * 64 ^ (hc c.val - 1) <= cbound (hc c.val) := by decide +kernel
 exact all ⟨b, hb⟩ h
structure Fm where
 v : Bool
 num : Int
 size : Int
 sc : Int
 rc : Int
 wc : Int
 mo : Int
 S : List Sb
structure Inf where
 rate : Int
 ch : Int
 wd : Int
abbrev Sb0 : Sb := ⟨0, 0, 0, 0, 0, [], ⟨0, 0, [], []⟩⟩
def sizN (c : Int) : Int := if c = 1 then 192 else if 2 <= c /\ c <= 5 then 576 * 2 ^ (c - 2).toNat else if 8 <= c /\ c <= 15 then 256 * 2 ^ (c - 8).toNat else 0
def ratN (c : Int) : Int := [0, 88200, 176400, 192000, 8000, 16000, 22050, 24000, 32000, 44100, 48000, 96000].getD c.toNat 0
def widN (c : Int) : Int := [0, 8, 12, 0, 16, 20, 24, 0].getD c.toNat 0
def wdA (i : Inf) (mo : Int) (c : Nat) : Int := if (c = 1 /\ (mo = 1 ∨ mo = 3)) ∨ (c = 0 /\ mo = 2) then i.wd + 1 else i.wd
abbrev mayF (i : Inf) : Prop := (1 <= i.ch /\ i.ch <= 8) /\ (4 <= i.wd /\ i.wd <= 24) /\ 1 <= i.rate
abbrev saysZ (f : Fm) : Prop := (1 <= f.sc /\ f.sc <= 15) /\ (sizN f.sc = f.size ∨ (f.sc = 6 /\ f.size <= 256) ∨ f.sc = 7)
abbrev saysR (f : Fm) (i : Inf) : Prop := f.rc = 0 ∨ ((1 <= f.rc /\ f.rc <= 11) /\ ratN f.rc = i.rate) ∨ (f.rc = 12 /\ i.rate % 1000 = 0 /\ i.rate <= 255000) ∨ (f.rc = 13 /\ i.rate <= 65535) ∨ (f.rc = 14 /\ i.rate % 10 = 0 /\ i.rate <= 655350)
abbrev saysW (f : Fm) (i : Inf) : Prop := f.wc = 0 ∨ ((1 <= f.wc /\ f.wc <= 6) /\ ¬ f.wc = 3 /\ widN f.wc = i.wd)
abbrev okH (f : Fm) (i : Inf) : Prop := mayF i /\ (1 <= f.size /\ f.size <= 4608) /\ (0 <= f.num /\ f.num <= (if f.v then 68719476735 else 2147483647)) /\ (0 <= f.mo /\ f.mo <= 3 /\ (f.mo = 0 ∨ i.ch = 2)) /\ saysZ f /\ saysR f i /\ saysW f i
abbrev okC (f : Fm) (i : Inf) : Prop := okH f i /\ (f.S.length : Int) = i.ch /\ ∀ c, c < f.S.length -> subOk (f.S.getD c Sb0) f.size (wdA i f.mo c)
def chnL (mo : Int) (P : List (List Int)) : List (List Int) := if mo = 0 then P else [zipN (stP mo.toNat) (P.getD 0 []) (P.getD 1 []) (P.getD 0 []).length, zipN (stQ mo.toNat) (P.getD 0 []) (P.getD 1 []) (P.getD 0 []).length]
abbrev okP (f : Fm) (i : Inf) (P : List (List Int)) : Prop := (P.length : Int) = i.ch /\ ∀ l ∈ P, (l.length : Int) = f.size /\ ∀ x ∈ l, sigE x i.wd = 0
abbrev okF (f : Fm) (i : Inf) (P : List (List Int)) : Prop := okC f i /\ okP f i P /\ ∀ c, c < f.S.length -> goesOk (f.S.getD c Sb0) (wdA i f.mo c) ((chnL f.mo P).getD c [])
def subsB (f : Fm) (i : Inf) (P : List (List Int)) : Nat -> List Nat
 | 0 => []
 | n + 1 => subsB f i P n ++ subB (f.S.getD n Sb0) (wdA i f.mo n) ((chnL f.mo P).getD n [])
def sizL (f : Fm) : List Nat := if f.sc = 6 then [(f.size - 1).toNat] else if f.sc = 7 then [(f.size - 1).toNat / 256, (f.size - 1).toNat % 256] else []
def ratL (f : Fm) (i : Inf) : List Nat := if f.rc = 12 then [(i.rate / 1000).toNat] else if f.rc = 13 then [i.rate.toNat / 256, i.rate.toNat % 256] else if f.rc = 14 then [(i.rate / 10).toNat / 256, (i.rate / 10).toNat % 256] else []
def fourL (f : Fm) (i : Inf) : List Nat := [255, 248 + (if f.v then 1 else 0), (f.sc * 16 + f.rc).toNat, ((if f.mo = 0 then i.ch - 1 else 7 + f.mo) * 16 + f.wc * 2).toNat]
def hedL (f : Fm) (i : Inf) : List Nat := fourL f i ++ codeL f.num.toNat (clen f.num.toNat) ++ sizL f ++ ratL f i
def crc8N (l : List Nat) : Nat := (crcL p8 0#8 l).toNat
def crc16N (l : List Nat) : Nat := (crcL p16 0#16 l).toNat
def be2 (n : Nat) : List Nat := [n / 256, n % 256]
def hedC (f : Fm) (i : Inf) : List Nat := hedL f i ++ [crc8N (hedL f i)]
def outL (l : List Nat) : List Nat := l ++ be2 (crc16N l)
def frL (f : Fm) (i : Inf) (P : List (List Int)) : List Nat := outL (hedC f i ++ pack (subsB f i P f.S.length))
theorem be2_inj (a b : Nat) (h : be2 a = be2 b) : a = b := by
 unfold be2 at h
 have h1 : a / 256 = b / 256 := by injection h
 have h2 : a % 256 = b % 256 := by
  injection h with _ h3
  injection h3
 omega
theorem crc16_lt (l : List Nat) : crc16N l < 65536 := (crcL p16 0#16 l).isLt
theorem be2_lt (n : Nat) (h : n < 65536) : ∀ b ∈ be2 n, b < 256 := fun b hb => by
 unfold be2 at hb
 rcases List.mem_cons.1 hb with e | hb
 ·omega
 ·rw [List.mem_singleton] at hb; omega
theorem be2_len (n : Nat) : (be2 n).length = 2 := rfl
theorem outL_len (l : List Nat) : (outL l).length = l.length + 2 := by unfold outL; rw [List.length_append, be2_len]
theorem out_spoilt (l m : List Nat) (hl : ∀ b ∈ l, b < 256) (k c : Nat) (hk : k < (outL l).length) (hc : c < 256) (hne : c ≠ (outL l).getD k 0) (h : (outL l).set k c = outL m) : False := by
 have hlen : l.length = m.length := by
  have := congrArg List.length h
  rw [List.length_set, outL_len, outL_len] at this; omega
 rw [outL_len] at hk
 by_cases hkl : k < l.length
 ·have hs : (outL l).set k c = l.set k c ++ be2 (crc16N l) := by
   unfold outL; rw [List.set_append_left _ _ hkl]
  rw [hs] at h
  unfold outL at h
  obtain ⟨h1, h2⟩ := List.append_inj h (by rw [List.length_set]; exact hlen)
  have h3 := be2_inj _ _ h2
  rw [<- h1] at h3
  have hg : (outL l).getD k 0 = l.getD k 0 := by
   unfold outL
   rw [List.getD_eq_getElem?_getD, List.getElem?_append_left hkl, List.getD_eq_getElem?_getD]
  rw [hg] at hne
  have e1 : l = l.take k ++ l.getD k 0 :: l.drop (k + 1) := by
   have hx : l.getD k 0 = l[k] := by rw [List.getD_eq_getElem?_getD, List.getElem?_eq_getElem hkl]; rfl
   rw [hx, <- List.drop_eq_getElem_cons hkl, List.take_append_drop]
  have e2 : l.set k c = l.take k ++ c :: l.drop (k + 1) := by rw [List.set_eq_take_append_cons_drop, if_pos hkl]
  have hb : l.getD k 0 < 256 := by
   rw [List.getD_eq_getElem?_getD, List.getElem?_eq_getElem hkl]
   exact hl _ (List.getElem_mem hkl)
  have := crcL_spoilt p16 odd16 told16 0#16 (l.take k) (l.drop (k + 1)) (l.getD k 0) c hb hc (fun e => hne e.symm)
  rw [<- e1, <- e2] at this
  exact this (BitVec.eq_of_toNat_eq h3)
 ·have hs : (outL l).set k c = l ++ (be2 (crc16N l)).set (k - l.length) c := by
   unfold outL; rw [List.set_append_right _ _ (by omega)]
  rw [hs] at h
  unfold outL at h
  obtain ⟨h1, h2⟩ := List.append_inj h hlen
  rw [<- h1] at h2
  have hg : (outL l).getD k 0 = (be2 (crc16N l)).getD (k - l.length) 0 := by
   unfold outL
   rw [List.getD_eq_getElem?_getD, List.getElem?_append_right (by omega), List.getD_eq_getElem?_getD]
  rw [hg] at hne
  apply hne
  have h4 := congrArg (fun x => x.getD (k - l.length) 0) h2
  rw [<- h4, List.getD_eq_getElem?_getD, List.getElem?_set, if_pos rfl, if_pos (by rw [be2_len]; omega)]
  rfl
theorem st_un (m : Nat) (hm : m <= 3) (p q : Int) : stP m (unP m p q) (unQ m p q) = p /\ stQ m (unP m p q) (unQ m p q) = q := by
 have hc : m = 0 ∨ m = 1 ∨ m = 2 ∨ m = 3 := by omega
 rcases hc with rfl | rfl | rfl | rfl
 ·exact ⟨rfl, rfl⟩
 ·exact ⟨rfl, by show p - (p - q) = q; omega⟩
 ·exact ⟨by show p + q - q = p; omega, rfl⟩
 ·refine ⟨?_, ?_⟩
  ·show ((p * 2 + q % 2 + q) / 2 + (p * 2 + q % 2 - q) / 2) / 2 = p
   omega
  ·show (p * 2 + q % 2 + q) / 2 - (p * 2 + q % 2 - q) / 2 = q
   omega
end Go.Proofs.YtfpfabmbipmipaaGreatDoor
namespace Go.Proofs.YtfpfabmbipmipaaGreatDoor
open Go.RowKit
namespace S3
theorem lt32 (x : BitVec 32) : x.toNat < 4294967296 := x.isLt
theorem msb_div (x : BitVec 32) : x.toNat / 2147483648 = if x.msb then 1 else 0 := by
 rw [BitVec.msb_eq_decide]
 have := lt32 x
 by_cases h : 2147483648 <= x.toNat
 ·have e : decide (2 ^ (32 - 1) <= x.toNat) = true := by simpa using h
  rw [e]
  simp
  omega
 ·have e : decide (2 ^ (32 - 1) <= x.toNat) = false := by simpa using h
  rw [e]
  simp
  omega
theorem high_step (P x : BitVec 32) : bits .xor .u32 ((x.toNat : Int) * 2 % 4294967296) ((x.toNat : Int) / 2147483648 * (P.toNat : Int) % 4294967296) = ((bstep P x false).toNat : Int) := by
 have hx := lt32 x
 have hP := lt32 P
 have e1 : (x.toNat : Int) * 2 % 4294967296 = ((x.toNat * 2 % 4294967296 : Nat) : Int) := by simp
 have e2 : (x.toNat : Int) / 2147483648 * (P.toNat : Int) % 4294967296 = (((if x.msb then P.toNat else 0 : Nat)) : Int) := by
  have := msb_div x
  have e3 : (x.toNat : Int) / 2147483648 = ((x.toNat / 2147483648 : Nat) : Int) := by simp
  rw [e3, this]
  cases x.msb with
  | true => simp; omega
  | false => simp
 rw [e1, e2, u32_xor_nat _ _ (by omega) (by split <;> omega)]
 congr 1
 unfold bstep
 rw [BitVec.toNat_xor, BitVec.toNat_shiftLeft, Nat.shiftLeft_eq]
 cases x.msb <;> simp
def noBits : List Bool := [false, false, false, false, false, false, false, false]
theorem byteStep_zero (P : BitVec 32) (b : Nat) (hb : b < 256) : bfold P (BitVec.ofNat 32 (b * 16777216)) noBits = byteStep P 0#32 b := by
 have h1 := byteStep_xor P 0#32 (BitVec.ofNat 32 (b * 16777216)) b b
 have h2 := byteStep_own P (BitVec.ofNat 32 (b * 16777216)) (by decide)
 have h3 : (BitVec.ofNat 32 (b * 16777216)).toNat / 2 ^ (32 - 8) % 256 = b := by
  rw [BitVec.toNat_ofNat]
  omega
 rw [h3] at h2
 have h4 : BitVec.ofNat 32 (b * 16777216) <<< 8 = 0#32 := by
  apply BitVec.eq_of_toNat_eq
  rw [BitVec.toNat_shiftLeft, BitVec.toNat_ofNat, Nat.shiftLeft_eq]
  simp
  omega
 rw [h2, h4, Nat.xor_self] at h1
 have h5 : bits8 0 = noBits := by decide
 have h6 : byteStep P (0#32 ^^^ BitVec.ofNat 32 (b * 16777216)) 0 = bfold P (BitVec.ofNat 32 (b * 16777216)) noBits := by
  unfold byteStep
  rw [h5, BitVec.zero_xor]
 rw [h6] at h1
 simpa using h1
theorem byteStep_zero_xor (P : BitVec 32) (a b : Nat) : byteStep P 0#32 (a ^^^ b) = byteStep P 0#32 a ^^^ byteStep P 0#32 b := by
 have := byteStep_xor P 0#32 0#32 a b
 simpa using this
section
variable {w : Nat}
theorem up_get (k : Nat) (x : BitVec w) (i : Nat) : (x ++ 0#k).getLsbD i = if i < k then false else x.getLsbD (i - k) := by
 rw [BitVec.getLsbD_append]
 split <;> simp
theorem bstep_up (k : Nat) (hw : 0 < w) (p n : BitVec w) (b : Bool) : bstep (p ++ 0#k) (n ++ 0#k) b = bstep p n b ++ 0#k := by
 have hm : (n ++ 0#k).msb = n.msb := by
  rw [BitVec.msb_append, if_neg (by omega)]
 unfold bstep
 rw [hm]
 apply BitVec.eq_of_getLsbD_eq
 intro i hi
 rw [up_get, BitVec.getLsbD_xor, BitVec.getLsbD_shiftLeft]
 by_cases hik : i < k
 ·rw [if_pos hik]
  have : (if (n.msb != b) = true then p ++ 0#k else 0#(w + k)).getLsbD i = false := by
   split
   ·rw [up_get, if_pos hik]
   ·simp
  rw [this, up_get, if_pos (by omega)]
  simp
 ·rw [if_neg hik, BitVec.getLsbD_xor, BitVec.getLsbD_shiftLeft]
  have : (if (n.msb != b) = true then p ++ 0#k else 0#(w + k)).getLsbD i = (if (n.msb != b) = true then p else 0#w).getLsbD (i - k) := by
   split
   ·rw [up_get, if_neg hik]
   ·simp
  rw [this, up_get]
  congr 1
  by_cases h0 : i = k
  ·subst h0
   by_cases hi0 : i = 0
   ·subst hi0
    simp
   ·rw [if_pos (by omega)]
    simp
  ·rw [if_neg (by omega)]
   have e1 : decide (i < w + k) = true := decide_eq_true hi
   have e2 : decide (i - k < w) = true := decide_eq_true (by omega)
   have e3 : decide (i < 1) = false := decide_eq_false (by omega)
   have e4 : decide (i - k < 1) = false := decide_eq_false (by omega)
   rw [e1, e2, e3, e4]
   congr 2
   omega
theorem bfold_up (k : Nat) (hw : 0 < w) (p : BitVec w) : ∀ (l : List Bool) (n : BitVec w), bfold (p ++ 0#k) (n ++ 0#k) l = bfold p n l ++ 0#k
 | [], _ => rfl
 | b :: l, n => by
  show bfold (p ++ 0#k) (bstep (p ++ 0#k) (n ++ 0#k) b) l = _
  rw [bstep_up k hw, bfold_up k hw p l]
  rfl
theorem crcL_up (k : Nat) (hw : 0 < w) (p : BitVec w) : ∀ (l : List Nat) (n : BitVec w), crcL (p ++ 0#k) (n ++ 0#k) l = crcL p n l ++ 0#k
 | [], _ => rfl
 | b :: l, n => by
  show crcL (p ++ 0#k) (bfold (p ++ 0#k) (n ++ 0#k) (bits8 b)) l = _
  rw [bfold_up k hw, crcL_up k hw p l]
  rfl
end
def P8 : BitVec 32 := 0x07000000#32
def P16 : BitVec 32 := 0x80050000#32
theorem crc8_up (l : List Nat) : (crcL P8 0#32 l).toNat / 16777216 = (crcL p8 0#8 l).toNat := by
 have h := crcL_up (w := 8) 24 (by decide) p8 l 0#8
 have e1 : crcL P8 0#32 l = crcL p8 0#8 l ++ 0#24 := by
  rw [<- h]
  rfl
 rw [e1, BitVec.toNat_append]
 simp [Nat.shiftLeft_eq]
theorem crc16_up (l : List Nat) : (crcL P16 0#32 l).toNat / 65536 = (crcL p16 0#16 l).toNat := by
 have h := crcL_up (w := 16) 16 (by decide) p16 l 0#16
 have e1 : crcL P16 0#32 l = crcL p16 0#16 l ++ 0#16 := by
  rw [<- h]
  rfl
 rw [e1, BitVec.toNat_append]
 simp [Nat.shiftLeft_eq]
theorem high_add (P x : BitVec 32) (b : Nat) (hb : b < 256) : bits .xor .u32 ((x.toNat : Int) * 256 % 4294967296) ((byteStep P 0#32 (x.toNat / 16777216 ^^^ b)).toNat : Int) = ((byteStep P x b).toNat : Int) := by
 have hx := lt32 x
 have e1 : (x.toNat : Int) * 256 % 4294967296 = ((x.toNat * 256 % 4294967296 : Nat) : Int) := by simp
 rw [e1, u32_xor_nat _ _ (by omega) (lt32 _), byteStep_table P x b (by decide), BitVec.toNat_xor, BitVec.toNat_shiftLeft, Nat.shiftLeft_eq]
 have e2 : x.toNat / 2 ^ (32 - 8) % 256 = x.toNat / 16777216 := by omega
 rw [e2]
theorem bfold_snoc (P c : BitVec 32) (i : Nat) : bfold P c (List.replicate (i + 1) false) = bstep P (bfold P c (List.replicate i false)) false := by
 rw [List.replicate_succ', bfold_append]
 rfl
theorem movedHigh_spec (kd wd pol tn : Int) (lo : Bool) (h0 : 0 <= wd) (h32 : wd <= 32) (P c : BitVec 32) (hP : pol * 2 ^ (32 - wd).toNat % 4294967296 = (P.toNat : Int)) (w : World) :
  Calls Tryz.prog 217 #[.agg #[.int .i64 kd, .int .i64 wd, .int .u32 pol, .bool lo, .int .u32 tn], .int .u32 (c.toNat : Int)] w fun e w' => e = .returned (.int .u32 ((bfold P c noBits).toNat : Int)) /\ Lo w w' := by
 go_enter Tryz.func217, Tryz.ntmps217
 go_wp2
 go_loop [1, 6] (fun x t => ∃ (i : Nat) (r : BitVec 32), i <= 8 /\ r = bfold P c (List.replicate i false) /\ x = .int .u32 (r.toNat : Int) /\ t = .int .i64 (i : Int)) (fun _ t => 8 - (intOf t).toNat)
 case atStart => exact ⟨0, c, Nat.zero_le _, rfl, rfl, rfl⟩
 case round =>
  obtain ⟨i, r, hi, hr, rfl, rfl⟩ := hrel
  by_cases hlt : i < 8
  ·have HR : Hid (bstep P r false = bfold P c (List.replicate (i + 1) false)) := by
    show _ = _
    rw [bfold_snoc, <- hr]
   clear hr
   have HS := high_step P r
   have hrl := lt32 r
   go_wp2
   go_round
   case rel => exact ⟨i + 1, _, by omega, HR.out, rfl, by go_num⟩
   case measure => simp [intOf]; omega
  ·have h8 : i = 8 := by omega
   have HR : Hid (r = bfold P c noBits) := by
    rw [h8] at hr
    exact hr
   clear hr h8
   go_wp2
   go_ret
   exact ⟨by rw [HR.out]; rfl, aQ⟩
theorem byte_high (P : BitVec 32) (b : Nat) (hb : b < 256) : ∃ c : BitVec 32, (b : Int) * 16777216 = (c.toNat : Int) /\ byteStep P 0#32 b = bfold P c noBits := by
 have hl : b * 16777216 < 2 ^ 32 := by omega
 refine ⟨BitVec.ofNat 32 (b * 16777216), ?_, (byteStep_zero P b hb).symm⟩
 rw [BitVec.toNat_ofNat, Nat.mod_eq_of_lt hl]
 omega
theorem movedOf_high (kd wd pol tn : Int) (h0 : 0 <= wd) (h32 : wd <= 32) (P : BitVec 32) (hP : pol * 2 ^ (32 - wd).toNat % 4294967296 = (P.toNat : Int)) (b : Nat) (hb : b < 256) (w : World) :
  Calls Tryz.prog 196 #[.agg #[.int .i64 kd, .int .i64 wd, .int .u32 pol, .bool false, .int .u32 tn], .int .u32 (b : Int)] w fun e w' => e = .returned (.int .u32 ((byteStep P 0#32 b).toNat : Int)) /\ Lo w w' := by
 obtain ⟨c, hc, he⟩ := byte_high P b hb
 rw [he]
 have HC : ∀ w, Calls Tryz.prog 217 #[.agg #[.int .i64 kd, .int .i64 wd, .int .u32 pol, .bool false, .int .u32 tn], .int .u32 (c.toNat : Int)] w fun e w' => e = .returned (.int .u32 ((bfold P c noBits).toNat : Int)) /\ Lo w w' := fun w => movedHigh_spec kd wd pol tn false h0 h32 P c hP w
 generalize bfold P c noBits = z at HC ⊢
 have HC' : Hid (∀ w, G1 217 #[.agg #[.int .i64 kd, .int .i64 wd, .int .u32 pol, .bool false, .int .u32 tn], .int .u32 (c.toNat : Int)] w (.int .u32 (z.toNat : Int))) := HC
 clear HC hP he
 generalize z.toNat = zn at HC' ⊢
 generalize c.toNat = cn at HC' hc
 go_enter Tryz.func196, Tryz.ntmps196
 go_wp2_with fail
 refine (HC'.out _).mono ?_
 rintro e w1 ⟨rfl, hB⟩
 have HB : Hid (Lo w w1) := ((Below.refl w.heap.size w).alloc (Nat.le_refl _) _).trans (hB.mono (by simp))
 clear hB
 go_wp2
 go_ret
 exact ⟨rfl, HB.out⟩
theorem info198 : (Tryz.prog.info? 198).map (fun i => (i.zero, i.size)) = some (some (.agg (Array.replicate 256 (.int .u32 0))), 256) := by kernel_rfl
theorem block_setCell (w : World) (p i : Nat) (cs : Array Value) (t : TypeId) (u : Value) (h : w.heap[p]? = some (.cells cs t (0, 0))) :
  (w.setCell ⟨p, i, none⟩ u).heap[p]? = some (.cells (cs.setIfInBounds i u) t (0, 0)) := by
 simp only [World.setCell, Array.getElem?_modify, h]
 simp
def tabV (F : Nat -> Nat) (k : Nat) : Array Value := ((List.range 256).map fun j => Value.int .u32 (((if j < k then F j else 0) : Nat) : Int)).toArray
theorem tabV_size (F : Nat -> Nat) (k : Nat) : (tabV F k).size = 256 := by simp [tabV]
theorem tabV_get (F : Nat -> Nat) (k j : Nat) (h : j < 256) : (tabV F k)[j]? = some (.int .u32 (((if j < k then F j else 0) : Nat) : Int)) := by simp [tabV, h]
theorem tabV_zero (F : Nat -> Nat) : tabV F 0 = Array.replicate 256 (.int .u32 0) := by
 apply Array.ext_getElem?
 intro j
 by_cases h : j < 256
 ·rw [tabV_get F 0 j h]
  simp [h]
 ·rw [Array.getElem?_eq_none (by rw [tabV_size]; omega), Array.getElem?_eq_none (by simp; omega)]
theorem tabV_set (F : Nat -> Nat) (k : Nat) (h : k < 256) : (tabV F k).setIfInBounds k (.int .u32 (F k : Int)) = tabV F (k + 1) := by
 apply Array.ext_getElem?
 intro j
 rw [Array.getElem?_setIfInBounds, tabV_size]
 by_cases hj : j < 256
 ·by_cases hk : k = j
  ·subst hk
   rw [if_pos rfl, if_pos h, tabV_get F _ _ hj]
   simp
  ·rw [if_neg hk, tabV_get F _ _ hj, tabV_get F _ _ hj]
   have : (j < k) = (j < k + 1) := propext ⟨fun h => by omega, fun h => by omega⟩
   simp only [this]
 ·rw [Array.getElem?_eq_none (by rw [tabV_size]; omega), Array.getElem?_eq_none (by rw [tabV_size]; omega), if_neg (by omega)]
theorem low_bit : ∀ i : Fin 256, i.val &&& (i.val - 1) = 0 ∨ ((i.val &&& (i.val - 1)) < i.val /\ (i.val ^^^ (i.val &&& (i.val - 1))) < i.val /\ (i.val &&& (i.val - 1)) ^^^ (i.val ^^^ (i.val &&& (i.val - 1))) = i.val) := by decide +kernel
theorem and_less (i : Nat) (h : i < 256) : bits .and .i64 (i : Int) ((i : Int) - 1) = ((i &&& (i - 1) : Nat) : Int) := by
 by_cases h0 : i = 0
 ·subst h0
  decide
 ·have e : (i : Int) - 1 = ((i - 1 : Nat) : Int) := by omega
  rw [e, i64_and_nat _ _ (by omega) (by omega)]
section
variable {P : Program} {ops : Array Oper} {rest : List Oper} {Q : Exit -> Act -> World -> Prop} {a : Act} {w : World}
theorem wpList_load_row (t : TypeId) {dst : Option Tmp} {x : Operand} {ty : TypeId} {pos : String} {after : Array Edge} (b : Nat) (c : Array Value) (t' : TypeId) (fz : Nat × Nat) (d : TypeDesc) (hu : P.underlying t = some d) (hd : (match d with | .struct _ | .array _ _ => true | _ => false) = true)
  (hi : (P.info? t).map (·.size) = some c.size) (hx : a.eval x = .pointer (some ⟨b, 0, none⟩)) (hb : w.heap[b]? = some (.cells c t' fz)) (h : wpList P ops Q rest (a.put dst (.agg c)) w) :
  wpList P ops Q (⟨dst, .load t x, ty, pos, after, none⟩ :: rest) a w := by
 refine wpList_plain rfl fun K hK => ?_
 unfold Oper.wp
 simp only [execOp, hx, Instr.loadAt, Instr.sureAddr, Sem.run_bind, Sem.run_pure, Result.andThen_ok, run_loadVar_row w b t' t c fz d hb hu hd hi]
 exact hK _ _ h
end
theorem lt_of {w : World} {b : Nat} {o : Obj} (h : w.heap[b]? = some o) : b < w.heap.size := lt_of_block h
theorem at_new3 (w : World) (a b c : Obj) : (((w.alloc a).alloc b).alloc c).heap[w.heap.size + 2]? = some c := by
 have h := heap_alloc_last ((w.alloc a).alloc b) c
 have e : ((w.alloc a).alloc b).heap.size = w.heap.size + 2 := by simp
 rwa [e] at h
theorem at_new2 (w : World) (a b c : Obj) : (((w.alloc a).alloc b).alloc c).heap[w.heap.size + 1]? = some b := by
 rw [Below.heap_alloc _ _ _ (by simp)]
 have h := heap_alloc_last (w.alloc a) b
 have e : (w.alloc a).heap.size = w.heap.size + 1 := by simp
 rwa [e] at h
theorem at_new1 (w : World) (a b c : Obj) : (((w.alloc a).alloc b).alloc c).heap[w.heap.size]? = some a := by
 rw [Below.heap_alloc _ _ _ (by simp; omega), Below.heap_alloc _ _ _ (by simp)]
 exact heap_alloc_last w a
theorem results_cell {fn : Func} {p : Tmp} {ty : TypeId} (h : fn.results = #[.cell p ty]) (tmps : Array Value) (P : Program) (w : World) :
  (results fn tmps).run P w = ((asAddr (tmps.getD p undef)).run P w).andThen fun a w₁ => (loadVar ty a).run P w₁ := by
 simp only [results, h]
 simp [Sem.run_bind, Result.andThen]
abbrev ruleV (kd wd pol : Int) (lo : Bool) (tn : Int) : Array Value := #[.int .i64 kd, .int .i64 wd, .int .u32 pol, .bool lo, .int .u32 tn]
theorem table_spec (kd wd pol tn : Int) (lo : Bool) (F : Nat -> Nat) (hF : ∀ j, F j < 4294967296) (hX : ∀ a b, F (a ^^^ b) = F a ^^^ F b)
  (hM : ∀ (b : Nat), b < 256 -> ∀ w, Calls Tryz.prog 196 #[.agg (ruleV kd wd pol lo tn), .int .u32 (b : Int)] w fun e w' => e = .returned (.int .u32 (F b : Int)) /\ Lo w w') (w : World) :
  Calls Tryz.prog 164 #[.agg (ruleV kd wd pol lo tn)] w fun e w' => e = .returned (.agg (tabV F 256)) /\ Lo w w' := by
 have hz := (zero_of_info info198).1
 rw [<- tabV_zero F] at hz
 have HI : Hid ((Tryz.prog.info? 198).map (·.size) = some 256) := (zero_of_info info198).2
 have hZs : Hid ((tabV F 0).size = 256) := tabV_size F 0
 have HM := kQ hM
 have HX := kQ hX
 have HF := kQ hF
 clear hM hX hF
 go_enter Tryz.func164, Tryz.ntmps164
 go_wp2_with fail
 go_loopw [6] (fun t wr => ∃ i : Nat, i <= 256 /\ t = .int .i64 (i : Int) /\ wr.heap[w.heap.size + 2]? = some (.cells (tabV F i) 198 (0, 0)) /\ wr.heap[w.heap.size + 1]? = some (.cells (tabV F 0) 198 (0, 0)) /\ wr.heap[w.heap.size]? = some (.cells (ruleV kd wd pol lo tn) 195 (0, 0)) /\ Lo w wr) (fun t _ => 256 - (intOf t).toNat)
 case atStart =>
  refine ⟨0, Nat.zero_le _, rfl, ?_, ?_, ?_, ?_⟩
  ·exact at_new3 w _ _ _
  ·exact at_new2 w _ _ _
  ·exact at_new1 w _ _ _
  ·exact (((Below.refl w.heap.size w).alloc (Nat.le_refl _) _).alloc (by simp) _).alloc (by simp; omega) _
 case round =>
  obtain ⟨i, hi, rfl, hb2, hb1, hb0, hB⟩ := hrel
  by_cases hlt : i < 256
  ·have hand := and_less i hlt
   have hsz := hB.size
   have hl2 := lt_of hb2
   rcases low_bit ⟨i, hlt⟩ with h0 | ⟨h1, h2, h3⟩
   ·simp only at h0
    rw [h0] at hand
    have HB2 := kQ hb2
    have HB1 := kQ hb1
    have HB0 := kQ hb0
    have HB := kQ hB
    have HL2 := kQ hl2
    have c0 : wr.cell? ⟨w.heap.size, 0, none⟩ = some (.int .i64 kd) := by rw [cell_of_row _ _ _ _ _ _ hb0]; rfl
    have c1 : wr.cell? ⟨w.heap.size, 1, none⟩ = some (.int .i64 wd) := by rw [cell_of_row _ _ _ _ _ _ hb0]; rfl
    have c2 : wr.cell? ⟨w.heap.size, 2, none⟩ = some (.int .u32 pol) := by rw [cell_of_row _ _ _ _ _ _ hb0]; rfl
    have c3 : wr.cell? ⟨w.heap.size, 3, none⟩ = some (.bool lo) := by rw [cell_of_row _ _ _ _ _ _ hb0]; rfl
    have c4 : wr.cell? ⟨w.heap.size, 4, none⟩ = some (.int .u32 tn) := by rw [cell_of_row _ _ _ _ _ _ hb0]; rfl
    clear hb2 hb1 hb0 hB h0 hl2 hsz
    go_wp2_with fail
    refine (HM.out i hlt _).mono ?_
    rintro e w1 ⟨rfl, hB1⟩
    have K2 : Hid (w1.heap[w.heap.size + 2]? = some (.cells (tabV F i) 198 (0, 0))) := by
     show _ = _
     rw [hB1.block _ HL2.out]; exact HB2.out
    have K1 : Hid (w1.heap[w.heap.size + 1]? = some (.cells (tabV F 0) 198 (0, 0))) := by
     show _ = _
     rw [hB1.block _ (by have := HL2.out; omega)]; exact HB1.out
    have K0 : Hid (w1.heap[w.heap.size]? = some (.cells (ruleV kd wd pol lo tn) 195 (0, 0))) := by
     show _ = _
     rw [hB1.block _ (by have := HL2.out; omega)]; exact HB0.out
    have KB := kQ (HB.out.trans (hB1.mono HB.out.size))
    have ci : w1.cell? ⟨w.heap.size + 1 + 1, i, none⟩ = some (.int .u32 0) := by
     rw [cell_of_row _ _ _ _ _ _ K2.out, tabV_get F i i hlt]
     simp
    have fi : w1.frozen? ⟨w.heap.size + 1 + 1, i, none⟩ = false := by
     have := K2.out
     simp [World.frozen?, this]
    clear hB1
    go_wp2
    go_roundw
    case rel =>
     exact ⟨i + 1, by omega, by go_num, by rw [block_setCell _ _ _ _ _ _ K2.out, tabV_set F i hlt], by rw [Below.heap_setCell _ _ _ _ (by simp)]; exact K1.out,
      by rw [Below.heap_setCell _ _ _ _ (by simp; omega)]; exact K0.out, KB.out.setCell (by simp; omega) _⟩
    case measure => simp [intOf]; omega
   ·simp only at h1 h2 h3
    have hr0 : ¬ ((i &&& (i - 1) : Nat) : Int) = 0 := by
     intro e
     have e' : i &&& (i - 1) = 0 := by omega
     rw [e'] at h2
     simp at h2
    have hxor : bits .xor .i64 (i : Int) ((i &&& (i - 1) : Nat) : Int) = ((i ^^^ (i &&& (i - 1)) : Nat) : Int) := i64_xor_nat _ _ (by omega) (by omega)
    generalize i &&& (i - 1) = r at *
    generalize hq : i ^^^ r = q at *
    have hfx : bits .xor .u32 (F r : Int) (F q : Int) = (F i : Int) := by
     rw [u32_xor_nat _ _ (HF.out r) (HF.out q), <- HX.out, h3]
    have cr : wr.cell? ⟨w.heap.size + 1 + 1, r, none⟩ = some (.int .u32 (F r : Int)) := by
     rw [cell_of_row _ _ _ _ _ _ hb2, tabV_get F i r (by omega), if_pos h1]
    have cq : wr.cell? ⟨w.heap.size + 1 + 1, q, none⟩ = some (.int .u32 (F q : Int)) := by
     rw [cell_of_row _ _ _ _ _ _ hb2, tabV_get F i q (by omega), if_pos h2]
    have ci : wr.cell? ⟨w.heap.size + 1 + 1, i, none⟩ = some (.int .u32 0) := by
     rw [cell_of_row _ _ _ _ _ _ hb2, tabV_get F i i hlt]
     simp
    have fi : wr.frozen? ⟨w.heap.size + 1 + 1, i, none⟩ = false := by
     simp [World.frozen?, hb2]
    have K2 := kQ hb2
    have K1 := kQ hb1
    have K0 := kQ hb0
    have KB := kQ hB
    clear hb2 hb1 hb0 hB h3 hq hl2 hsz
    go_wp2_with fail
    go_region
    all_goals go_wp2
    go_roundw
    case rel =>
     refine ⟨i + 1, by omega, by go_num, ?_, ?_, ?_, (KB.out.setCell (by simp; omega) _).drew⟩
     ·show (wr.setCell _ _).heap[_]? = _
      rw [block_setCell _ _ _ _ _ _ K2.out, tabV_set F i hlt]
     ·show (wr.setCell _ _).heap[_]? = _
      rw [Below.heap_setCell _ _ _ _ (by simp)]
      exact K1.out
     ·show (wr.setCell _ _).heap[_]? = _
      rw [Below.heap_setCell _ _ _ _ (by simp; omega)]
      exact K0.out
    case measure => simp [intOf]; omega
  ·have h8 : i = 256 := by omega
   have HB2 : Hid (wr.heap[w.heap.size + 2]? = some (.cells (tabV F 256) 198 (0, 0))) := by rw [h8] at hb2; exact hb2
   have HB1 := kQ hb1
   have HB := kQ hB
   clear hb2 hb1 hb0 hB h8
   go_upto_region 10 with fail
   go_wp2_with (first | (refine wpList_load_row 198 (w.heap.size + 2) (tabV F 256) 198 (0, 0) (.array 256 193) Tryz.underlying198 rfl (by rw [tabV_size]; exact HI.out) rfl HB2.out ?_) | (refine wpList_store_row rfl 198 (.tmp 2) (.tmp 33) rfl (w.heap.size + 1) (tabV F 256) rfl rfl 198 (tabV F 0) HB1.out (by rw [tabV_size]; exact HI.out) (by rw [tabV_size, tabV_size]) (by simp [tabV, Value.oneCell']) ?_))
   refine bodyPost_ret (v := .agg (tabV F 256)) ?_ rfl ⟨rfl, ?_⟩
   ·rw [results_cell rfl]
    have hld := run_loadVar_row (P := Tryz.prog) _ (w.heap.size + 1) 198 198 (tabV F 256) (0, 0) _ (setRow_heap wr (w.heap.size + 1) _ (tabV F 256) 198 (0, 0) HB1.out) Tryz.underlying198 rfl (by rw [tabV_size]; exact HI.out)
    simp [asAddr, Result.andThen, Act.put, hld]
   ·exact HB.out.trans ⟨rfl, rfl, rfl, by simp, fun k hk => setRow_other _ _ _ _ (by omega)⟩
end S3
end Go.Proofs.YtfpfabmbipmipaaGreatDoor
