/- Own text. -/
import Derived.Test.YtfpfabmbipmipaaGreatDoorD10
import Derived.Laws.BytesArg
import Derived.Deep.WholeRow
import Derived.Laws.ResultCell
import Derived.Deep.Cut
import Derived.Handy
set_option linter.unusedSimpArgs false
set_option linter.unusedVariables false
set_option maxRecDepth 20000
set_option maxHeartbeats 12800000
namespace Go.Proofs.YtfpfabmbipmipaaGreatDoor
open Go.RowKit
def clen (n : Nat) : Nat :=
 if n < 128 then 1 else if n < 2048 then 2 else if n < 65536 then 3 else if n < 2097152 then 4 else if n < 67108864 then 5 else if n < 2147483648 then 6 else 7
def hm (k : Nat) : Nat := if k = 1 then 0 else 256 - 2 ^ (8 - k)
def hc (b : Nat) : Nat :=
 if b < 128 then 1 else if b < 192 then 0 else if b < 224 then 2 else if b < 240 then 3 else if b < 248 then 4 else if b < 252 then 5 else if b < 254 then 6 else if b < 255 then 7 else 0
def cbound (k : Nat) : Nat := if k = 1 then 128 else 2 ^ (5 * k + 1)
theorem clen_range (n : Nat) : 1 <= clen n /\ clen n <= 7 := by unfold clen; (repeat' split) <;> omega
theorem seven (k : Nat) (h1 : 1 <= k) (h7 : k <= 7) : k = 1 ∨ k = 2 ∨ k = 3 ∨ k = 4 ∨ k = 5 ∨ k = 6 ∨ k = 7 := by omega
theorem clen_le (n k : Nat) (h1 : 1 <= k) (h7 : k <= 7) (h : n < cbound k) : clen n <= k := by
 unfold clen
 rcases seven k h1 h7 with rfl | rfl | rfl | rfl | rfl | rfl | rfl <;> simp [cbound] at h <;> (repeat' split) <;> omega
theorem clen_bound (n : Nat) (h : n < 68719476736) : n < cbound (clen n) := by
 unfold clen
 repeat' split
 all_goals (simp [cbound]; omega)
theorem cbound_le (k : Nat) (h1 : 1 <= k) (h7 : k <= 7) : cbound k <= 68719476736 := by
 rcases seven k h1 h7 with rfl | rfl | rfl | rfl | rfl | rfl | rfl <;> simp [cbound]
def codeAt (n k j : Nat) : Nat := if j = 0 then hm k + n / 64 ^ (k - 1) else 128 + n / 64 ^ (k - 1 - j) % 64
def codeL (n k : Nat) : List Nat := (List.range k).map (codeAt n k)
theorem codeL_length (n k : Nat) : (codeL n k).length = k := by simp [codeL]
theorem top_lt (n k : Nat) (h1 : 1 <= k) (h7 : k <= 7) (h : n < cbound k) : n / 64 ^ (k - 1) < (if k = 1 then 128 else 2 ^ (7 - k)) := by
 rcases seven k h1 h7 with rfl | rfl | rfl | rfl | rfl | rfl | rfl <;> simp [cbound] at h ⊢ <;> omega
theorem codeAt_lt (n k j : Nat) (h1 : 1 <= k) (h7 : k <= 7) (h : n < cbound k) : codeAt n k j < 256 := by
 have ht := top_lt n k h1 h7 h
 unfold codeAt hm
 split
 ·rcases seven k h1 h7 with rfl | rfl | rfl | rfl | rfl | rfl | rfl <;> simp at ht ⊢ <;> omega
 ·have := Nat.mod_lt (n / 64 ^ (k - 1 - j)) (show 64 > 0 by decide)
  omega
theorem codeL_lt (n k : Nat) (h1 : 1 <= k) (h7 : k <= 7) (h : n < cbound k) : ∀ b ∈ codeL n k, b < 256 := by
 intro b hb
 obtain ⟨j, _, rfl⟩ := List.mem_map.1 hb
 exact codeAt_lt n k j h1 h7 h
def unc (l : List Nat) : Nat -> Nat -> Nat -> Nat × Nat
 | 0, _, n => (n, 0)
 | m + 1, i, n => if l.length <= i then (0, 10) else if l.getD i 0 < 128 ∨ 192 <= l.getD i 0 then (0, 2) else unc l m (i + 1) (n * 64 + (l.getD i 0 - 128))
theorem unc_end (l : List Nat) (i n : Nat) : unc l 0 i n = (n, 0) := rfl
theorem unc_short (l : List Nat) (m i n : Nat) (h : l.length <= i) : unc l (m + 1) i n = (0, 10) := by unfold unc; rw [if_pos h]
theorem unc_bad (l : List Nat) (m i n : Nat) (h : ¬ l.length <= i) (hb : l.getD i 0 < 128 ∨ 192 <= l.getD i 0) : unc l (m + 1) i n = (0, 2) := by unfold unc; rw [if_neg h, if_pos hb]
theorem unc_step (l : List Nat) (m i n : Nat) (h : ¬ l.length <= i) (hb : ¬ (l.getD i 0 < 128 ∨ 192 <= l.getD i 0)) : unc l (m + 1) i n = unc l m (i + 1) (n * 64 + (l.getD i 0 - 128)) := by
 conv => lhs; unfold unc
 rw [if_neg h, if_neg hb]
def uncEnd (k : Nat) (r : Nat × Nat) : Nat × Nat × Nat := if r.2 ≠ 0 then (0, 0, r.2) else if clen r.1 < k then (0, 0, 2) else (r.1, k, 0)
def uncode (l : List Nat) : Nat × Nat × Nat :=
 if l.length = 0 then (0, 0, 10) else if hc (l.getD 0 0) = 0 then (0, 0, 2) else uncEnd (hc (l.getD 0 0)) (unc l (hc (l.getD 0 0) - 1) 1 (l.getD 0 0 - hm (hc (l.getD 0 0))))
theorem hc_range (b : Nat) : hc b <= 7 := by unfold hc; (repeat' split) <;> omega
theorem hc_first (b : Nat) (hb : b < 256) (h : hc b ≠ 0) : hm (hc b) <= b /\ (b - hm (hc b) + 1) * 64 ^ (hc b - 1) <= cbound (hc b) := by
 have all : ∀ c : Fin 256, hc c.val ≠ 0 -> hm (hc c.val) <= c.val /\ (c.val - hm (hc c.val) + 1) * 64 ^ (hc c.val - 1) <= cbound (hc c.val) := by decide +kernel
 exact all ⟨b, hb⟩ h
structure Fm where
 v : Bool
 num : Int
 size : Int
 sc : Int
 rc : Int
 wc : Int
 mo : Int
 S : List Sb
structure Inf where
 rate : Int
 ch : Int
 wd : Int
abbrev Sb0 : Sb := ⟨0, 0, 0, 0, 0, [], ⟨0, 0, [], []⟩⟩
def sizN (c : Int) : Int := if c = 1 then 192 else if 2 <= c /\ c <= 5 then 576 * 2 ^ (c - 2).toNat else if 8 <= c /\ c <= 15 then 256 * 2 ^ (c - 8).toNat else 0
def ratN (c : Int) : Int := [0, 88200, 176400, 192000, 8000, 16000, 22050, 24000, 32000, 44100, 48000, 96000].getD c.toNat 0
def widN (c : Int) : Int := [0, 8, 12, 0, 16, 20, 24, 0].getD c.toNat 0
def wdA (i : Inf) (mo : Int) (c : Nat) : Int := if (c = 1 /\ (mo = 1 ∨ mo = 3)) ∨ (c = 0 /\ mo = 2) then i.wd + 1 else i.wd
abbrev mayF (i : Inf) : Prop := (1 <= i.ch /\ i.ch <= 8) /\ (4 <= i.wd /\ i.wd <= 24) /\ 1 <= i.rate
abbrev saysZ (f : Fm) : Prop := (1 <= f.sc /\ f.sc <= 15) /\ (sizN f.sc = f.size ∨ (f.sc = 6 /\ f.size <= 256) ∨ f.sc = 7)
abbrev saysR (f : Fm) (i : Inf) : Prop := f.rc = 0 ∨ ((1 <= f.rc /\ f.rc <= 11) /\ ratN f.rc = i.rate) ∨ (f.rc = 12 /\ i.rate % 1000 = 0 /\ i.rate <= 255000) ∨ (f.rc = 13 /\ i.rate <= 65535) ∨ (f.rc = 14 /\ i.rate % 10 = 0 /\ i.rate <= 655350)
abbrev saysW (f : Fm) (i : Inf) : Prop := f.wc = 0 ∨ ((1 <= f.wc /\ f.wc <= 6) /\ ¬ f.wc = 3 /\ widN f.wc = i.wd)
abbrev okH (f : Fm) (i : Inf) : Prop := mayF i /\ (1 <= f.size /\ f.size <= 4608) /\ (0 <= f.num /\ f.num <= (if f.v then 68719476735 else 2147483647)) /\ (0 <= f.mo /\ f.mo <= 3 /\ (f.mo = 0 ∨ i.ch = 2)) /\ saysZ f /\ saysR f i /\ saysW f i
abbrev okC (f : Fm) (i : Inf) : Prop := okH f i /\ (f.S.length : Int) = i.ch /\ ∀ c, c < f.S.length -> subOk (f.S.getD c Sb0) f.size (wdA i f.mo c)
def chnL (mo : Int) (P : List (List Int)) : List (List Int) := if mo = 0 then P else [zipN (stP mo.toNat) (P.getD 0 []) (P.getD 1 []) (P.getD 0 []).length, zipN (stQ mo.toNat) (P.getD 0 []) (P.getD 1 []) (P.getD 0 []).length]
abbrev okP (f : Fm) (i : Inf) (P : List (List Int)) : Prop := (P.length : Int) = i.ch /\ ∀ l ∈ P, (l.length : Int) = f.size /\ ∀ x ∈ l, sigE x i.wd = 0
abbrev okF (f : Fm) (i : Inf) (P : List (List Int)) : Prop := okC f i /\ okP f i P /\ ∀ c, c < f.S.length -> goesOk (f.S.getD c Sb0) (wdA i f.mo c) ((chnL f.mo P).getD c [])
def subsB (f : Fm) (i : Inf) (P : List (List Int)) : Nat -> List Nat
 | 0 => []
 | n + 1 => subsB f i P n ++ subB (f.S.getD n Sb0) (wdA i f.mo n) ((chnL f.mo P).getD n [])
def sizL (f : Fm) : List Nat := if f.sc = 6 then [(f.size - 1).toNat] else if f.sc = 7 then [(f.size - 1).toNat / 256, (f.size - 1).toNat % 256] else []
def ratL (f : Fm) (i : Inf) : List Nat := if f.rc = 12 then [(i.rate / 1000).toNat] else if f.rc = 13 then [i.rate.toNat / 256, i.rate.toNat % 256] else if f.rc = 14 then [(i.rate / 10).toNat / 256, (i.rate / 10).toNat % 256] else []
def fourL (f : Fm) (i : Inf) : List Nat := [255, 248 + (if f.v then 1 else 0), (f.sc * 16 + f.rc).toNat, ((if f.mo = 0 then i.ch - 1 else 7 + f.mo) * 16 + f.wc * 2).toNat]
def hedL (f : Fm) (i : Inf) : List Nat := fourL f i ++ codeL f.num.toNat (clen f.num.toNat) ++ sizL f ++ ratL f i
def crc8N (l : List Nat) : Nat := (crcL p8 0#8 l).toNat
def crc16N (l : List Nat) : Nat := (crcL p16 0#16 l).toNat
def be2 (n : Nat) : List Nat := [n / 256, n % 256]
def hedC (f : Fm) (i : Inf) : List Nat := hedL f i ++ [crc8N (hedL f i)]
def outL (l : List Nat) : List Nat := l ++ be2 (crc16N l)
def frL (f : Fm) (i : Inf) (P : List (List Int)) : List Nat := outL (hedC f i ++ pack (subsB f i P f.S.length))
theorem crc16_lt (l : List Nat) : crc16N l < 65536 := (crcL p16 0#16 l).isLt
theorem be2_lt (n : Nat) (h : n < 65536) : ∀ b ∈ be2 n, b < 256 := fun b hb => by
 unfold be2 at hb
 rcases List.mem_cons.1 hb with e | hb
 ·omega
 ·rw [List.mem_singleton] at hb; omega
theorem be2_len (n : Nat) : (be2 n).length = 2 := rfl
end Go.Proofs.YtfpfabmbipmipaaGreatDoor
namespace Go.Proofs.YtfpfabmbipmipaaGreatDoor
open Go.RowKit
namespace S3
theorem lt32 (x : BitVec 32) : x.toNat < 4294967296 := x.isLt
theorem msb_div (x : BitVec 32) : x.toNat / 2147483648 = if x.msb then 1 else 0 := by
 rw [BitVec.msb_eq_decide]
 have := lt32 x
 by_cases h : 2147483648 <= x.toNat
 ·have e : decide (2 ^ (32 - 1) <= x.toNat) = true := by simpa using h
  rw [e];simp;omega
 ·have e : decide (2 ^ (32 - 1) <= x.toNat) = false := by simpa using h
  rw [e];simp;omega
theorem high_step (P x : BitVec 32) : bits .xor .u32 ((x.toNat : Int) * 2 % 4294967296) ((x.toNat : Int) / 2147483648 * (P.toNat : Int) % 4294967296) = ((bstep P x false).toNat : Int) := by
 have hx := lt32 x
 have hP := lt32 P
 have e1 : (x.toNat : Int) * 2 % 4294967296 = ((x.toNat * 2 % 4294967296 : Nat) : Int) := by simp
 have e2 : (x.toNat : Int) / 2147483648 * (P.toNat : Int) % 4294967296 = (((if x.msb then P.toNat else 0 : Nat)) : Int) := by
  have := msb_div x;have e3 : (x.toNat : Int) / 2147483648 = ((x.toNat / 2147483648 : Nat) : Int) := by simp
  rw [e3, this]
  cases x.msb with
  | true => simp; omega
  | false => simp
 rw [e1, e2, u32_xor_nat _ _ (by omega) (by split <;> omega)]
 congr 1
 unfold bstep
 rw [BitVec.toNat_xor, BitVec.toNat_shiftLeft, Nat.shiftLeft_eq]
 cases x.msb <;> simp
def noBits : List Bool := [false, false, false, false, false, false, false, false]
theorem byteStep_zero (P : BitVec 32) (b : Nat) (hb : b < 256) : bfold P (BitVec.ofNat 32 (b * 16777216)) noBits = byteStep P 0#32 b := by
 have h1 := byteStep_xor P 0#32 (BitVec.ofNat 32 (b * 16777216)) b b
 have h2 := byteStep_own P (BitVec.ofNat 32 (b * 16777216)) (by decide)
 have h3 : (BitVec.ofNat 32 (b * 16777216)).toNat / 2 ^ (32 - 8) % 256 = b := by
  rw [BitVec.toNat_ofNat];omega
 rw [h3] at h2
 have h4 : BitVec.ofNat 32 (b * 16777216) <<< 8 = 0#32 := by
  apply BitVec.eq_of_toNat_eq;rw [BitVec.toNat_shiftLeft, BitVec.toNat_ofNat, Nat.shiftLeft_eq];simp;omega
 rw [h2, h4, Nat.xor_self] at h1
 have h5 : bits8 0 = noBits := by decide
 have h6 : byteStep P (0#32 ^^^ BitVec.ofNat 32 (b * 16777216)) 0 = bfold P (BitVec.ofNat 32 (b * 16777216)) noBits := by
  unfold byteStep;rw [h5, BitVec.zero_xor]
 rw [h6] at h1
 simpa using h1
theorem byteStep_zero_xor (P : BitVec 32) (a b : Nat) : byteStep P 0#32 (a ^^^ b) = byteStep P 0#32 a ^^^ byteStep P 0#32 b := by
 have := byteStep_xor P 0#32 0#32 a b
 simpa using this
section
variable {w : Nat}
theorem up_get (k : Nat) (x : BitVec w) (i : Nat) : (x ++ 0#k).getLsbD i = if i < k then false else x.getLsbD (i - k) := by
 rw [BitVec.getLsbD_append]
 split <;> simp
theorem bstep_up (k : Nat) (hw : 0 < w) (p n : BitVec w) (b : Bool) : bstep (p ++ 0#k) (n ++ 0#k) b = bstep p n b ++ 0#k := by
 have hm : (n ++ 0#k).msb = n.msb := by
  rw [BitVec.msb_append, if_neg (by omega)]
 unfold bstep
 rw [hm]
 apply BitVec.eq_of_getLsbD_eq
 intro i hi
 rw [up_get, BitVec.getLsbD_xor, BitVec.getLsbD_shiftLeft]
 by_cases hik : i < k
 ·rw [if_pos hik]
  have : (if (n.msb != b) = true then p ++ 0#k else 0#(w + k)).getLsbD i = false := by
   split
   ·rw [up_get, if_pos hik]
   ·simp
  rw [this, up_get, if_pos (by omega)]
  simp
 ·rw [if_neg hik, BitVec.getLsbD_xor, BitVec.getLsbD_shiftLeft]
  have : (if (n.msb != b) = true then p ++ 0#k else 0#(w + k)).getLsbD i = (if (n.msb != b) = true then p else 0#w).getLsbD (i - k) := by
   split
   ·rw [up_get, if_neg hik]
   ·simp
  rw [this, up_get];congr 1;by_cases h0 : i = k
  ·subst h0
   by_cases hi0 : i = 0
   ·subst hi0
    simp
   ·rw [if_pos (by omega)]
    simp
  ·rw [if_neg (by omega)]
   have e1 : decide (i < w + k) = true := decide_eq_true hi;have e2 : decide (i - k < w) = true := decide_eq_true (by omega)
   have e3 : decide (i < 1) = false := decide_eq_false (by omega)
   have e4 : decide (i - k < 1) = false := decide_eq_false (by omega)
   rw [e1, e2, e3, e4];congr 2;omega
theorem bfold_up (k : Nat) (hw : 0 < w) (p : BitVec w) : ∀ (l : List Bool) (n : BitVec w), bfold (p ++ 0#k) (n ++ 0#k) l = bfold p n l ++ 0#k
 | [], _ => rfl
 | b :: l, n => by
  show bfold (p ++ 0#k) (bstep (p ++ 0#k) (n ++ 0#k) b) l = _;rw [bstep_up k hw, bfold_up k hw p l];rfl
theorem crcL_up (k : Nat) (hw : 0 < w) (p : BitVec w) : ∀ (l : List Nat) (n : BitVec w), crcL (p ++ 0#k) (n ++ 0#k) l = crcL p n l ++ 0#k
 | [], _ => rfl
 | b :: l, n => by
  show crcL (p ++ 0#k) (bfold (p ++ 0#k) (n ++ 0#k) (bits8 b)) l = _;rw [bfold_up k hw, crcL_up k hw p l];rfl
end
def P8 : BitVec 32 := 0x07000000#32
def P16 : BitVec 32 := 0x80050000#32
theorem crc8_up (l : List Nat) : (crcL P8 0#32 l).toNat / 16777216 = (crcL p8 0#8 l).toNat := by
 have h := crcL_up (w := 8) 24 (by decide) p8 l 0#8
 have e1 : crcL P8 0#32 l = crcL p8 0#8 l ++ 0#24 := by
  rw [<- h];rfl
 rw [e1, BitVec.toNat_append]
 simp [Nat.shiftLeft_eq]
theorem crc16_up (l : List Nat) : (crcL P16 0#32 l).toNat / 65536 = (crcL p16 0#16 l).toNat := by
 have h := crcL_up (w := 16) 16 (by decide) p16 l 0#16
 have e1 : crcL P16 0#32 l = crcL p16 0#16 l ++ 0#16 := by
  rw [<- h];rfl
 rw [e1, BitVec.toNat_append]
 simp [Nat.shiftLeft_eq]
theorem high_add (P x : BitVec 32) (b : Nat) (hb : b < 256) : bits .xor .u32 ((x.toNat : Int) * 256 % 4294967296) ((byteStep P 0#32 (x.toNat / 16777216 ^^^ b)).toNat : Int) = ((byteStep P x b).toNat : Int) := by
 have hx := lt32 x
 have e1 : (x.toNat : Int) * 256 % 4294967296 = ((x.toNat * 256 % 4294967296 : Nat) : Int) := by simp
 rw [e1, u32_xor_nat _ _ (by omega) (lt32 _), byteStep_table P x b (by decide), BitVec.toNat_xor, BitVec.toNat_shiftLeft, Nat.shiftLeft_eq]
 have e2 : x.toNat / 2 ^ (32 - 8) % 256 = x.toNat / 16777216 := by omega
 rw [e2]
theorem bfold_snoc (P c : BitVec 32) (i : Nat) : bfold P c (List.replicate (i + 1) false) = bstep P (bfold P c (List.replicate i false)) false := by
 rw [List.replicate_succ', bfold_append]
 rfl
theorem movedHigh_spec (kd wd pol tn : Int) (lo : Bool) (h0 : 0 <= wd) (h32 : wd <= 32) (P c : BitVec 32) (hP : pol * 2 ^ (32 - wd).toNat % 4294967296 = (P.toNat : Int)) (w : World) :
  Calls Tryz.prog 217 #[.agg #[.int .i64 kd, .int .i64 wd, .int .u32 pol, .bool lo, .int .u32 tn], .int .u32 (c.toNat : Int)] w fun e w' => e = .returned (.int .u32 ((bfold P c noBits).toNat : Int)) /\ Lo w w' := by
 go_enter Tryz.func217, Tryz.ntmps217
 go_wp2
 go_loop [1, 6] (fun x t => ∃ (i : Nat) (r : BitVec 32), i <= 8 /\ r = bfold P c (List.replicate i false) /\ x = .int .u32 (r.toNat : Int) /\ t = .int .i64 (i : Int)) (fun _ t => 8 - (intOf t).toNat)
 case atStart => exact ⟨0, c, Nat.zero_le _, rfl, rfl, rfl⟩
 case round =>
  obtain ⟨i, r, hi, hr, rfl, rfl⟩ := hrel;by_cases hlt : i < 8
  ·have HR : Hid (bstep P r false = bfold P c (List.replicate (i + 1) false)) := by
    show _ = _;rw [bfold_snoc, <- hr]
   clear hr;have HS := high_step P r;have hrl := lt32 r
   go_wp2
   go_round
   case rel => exact ⟨i + 1, _, by omega, HR.out, rfl, by go_num⟩
   case measure => simp [intOf]; omega
  ·have h8 : i = 8 := by omega
   have HR : Hid (r = bfold P c noBits) := by
    rw [h8] at hr;exact hr
   clear hr h8
   go_wp2
   go_ret;exact ⟨by rw [HR.out]; rfl, aQ⟩
theorem byte_high (P : BitVec 32) (b : Nat) (hb : b < 256) : ∃ c : BitVec 32, (b : Int) * 16777216 = (c.toNat : Int) /\ byteStep P 0#32 b = bfold P c noBits := by
 have hl : b * 16777216 < 2 ^ 32 := by omega
 refine ⟨BitVec.ofNat 32 (b * 16777216), ?_, (byteStep_zero P b hb).symm⟩
 rw [BitVec.toNat_ofNat, Nat.mod_eq_of_lt hl]
 omega
theorem movedOf_high (kd wd pol tn : Int) (h0 : 0 <= wd) (h32 : wd <= 32) (P : BitVec 32) (hP : pol * 2 ^ (32 - wd).toNat % 4294967296 = (P.toNat : Int)) (b : Nat) (hb : b < 256) (w : World) :
  Calls Tryz.prog 196 #[.agg #[.int .i64 kd, .int .i64 wd, .int .u32 pol, .bool false, .int .u32 tn], .int .u32 (b : Int)] w fun e w' => e = .returned (.int .u32 ((byteStep P 0#32 b).toNat : Int)) /\ Lo w w' := by
 obtain ⟨c, hc, he⟩ := byte_high P b hb
 rw [he]
 have HC : ∀ w, Calls Tryz.prog 217 #[.agg #[.int .i64 kd, .int .i64 wd, .int .u32 pol, .bool false, .int .u32 tn], .int .u32 (c.toNat : Int)] w fun e w' => e = .returned (.int .u32 ((bfold P c noBits).toNat : Int)) /\ Lo w w' := fun w => movedHigh_spec kd wd pol tn false h0 h32 P c hP w
 generalize bfold P c noBits = z at HC ⊢
 have HC' : Hid (∀ w, G1 217 #[.agg #[.int .i64 kd, .int .i64 wd, .int .u32 pol, .bool false, .int .u32 tn], .int .u32 (c.toNat : Int)] w (.int .u32 (z.toNat : Int))) := HC
 clear HC hP he
 generalize z.toNat = zn at HC' ⊢
 generalize c.toNat = cn at HC' hc
 go_enter Tryz.func196, Tryz.ntmps196
 go_wp2_with fail
 refine (HC'.out _).mono ?_
 rintro e w1 ⟨rfl, hB⟩
 have HB : Hid (Lo w w1) := ((Below.refl w.heap.size w).alloc (Nat.le_refl _) _).trans (hB.mono (by simp))
 clear hB
 go_wp2
 go_ret
 exact ⟨rfl, HB.out⟩
theorem info198 : (Tryz.prog.info? 198).map (fun i => (i.zero, i.size)) = some (some (.agg (Array.replicate 256 (.int .u32 0))), 256) := by kernel_rfl
theorem block_setCell (w : World) (p i : Nat) (cs : Array Value) (t : TypeId) (u : Value) (h : w.heap[p]? = some (.cells cs t (0, 0))) :
  (w.setCell ⟨p, i, none⟩ u).heap[p]? = some (.cells (cs.setIfInBounds i u) t (0, 0)) := by
 simp only [World.setCell, Array.getElem?_modify, h]
 simp
def tabV (F : Nat -> Nat) (k : Nat) : Array Value := ((List.range 256).map fun j => Value.int .u32 (((if j < k then F j else 0) : Nat) : Int)).toArray
theorem tabV_size (F : Nat -> Nat) (k : Nat) : (tabV F k).size = 256 := by simp [tabV]
theorem tabV_get (F : Nat -> Nat) (k j : Nat) (h : j < 256) : (tabV F k)[j]? = some (.int .u32 (((if j < k then F j else 0) : Nat) : Int)) := by simp [tabV, h]
theorem tabV_zero (F : Nat -> Nat) : tabV F 0 = Array.replicate 256 (.int .u32 0) := by
 apply Array.ext_getElem?
 intro j
 by_cases h : j < 256
 ·rw [tabV_get F 0 j h]
  simp [h]
 ·rw [Array.getElem?_eq_none (by rw [tabV_size]; omega), Array.getElem?_eq_none (by simp; omega)]
theorem tabV_set (F : Nat -> Nat) (k : Nat) (h : k < 256) : (tabV F k).setIfInBounds k (.int .u32 (F k : Int)) = tabV F (k + 1) := by
 apply Array.ext_getElem?
 intro j
 rw [Array.getElem?_setIfInBounds, tabV_size]
 by_cases hj : j < 256
 ·by_cases hk : k = j
  ·subst hk
   rw [if_pos rfl, if_pos h, tabV_get F _ _ hj];simp
  ·rw [if_neg hk, tabV_get F _ _ hj, tabV_get F _ _ hj]
   have : (j < k) = (j < k + 1) := propext ⟨fun h => by omega, fun h => by omega⟩
   simp only [this]
 ·rw [Array.getElem?_eq_none (by rw [tabV_size]; omega), Array.getElem?_eq_none (by rw [tabV_size]; omega), if_neg (by omega)]
theorem low_bit : ∀ i : Fin 256, i.val &&& (i.val - 1) = 0 ∨ ((i.val &&& (i.val - 1)) < i.val /\ (i.val ^^^ (i.val &&& (i.val - 1))) < i.val /\ (i.val &&& (i.val - 1)) ^^^ (i.val ^^^ (i.val &&& (i.val - 1))) = i.val) := by decide +kernel
theorem and_less (i : Nat) (h : i < 256) : bits .and .i64 (i : Int) ((i : Int) - 1) = ((i &&& (i - 1) : Nat) : Int) := by
 by_cases h0 : i = 0
 ·subst h0
  decide
 ·have e : (i : Int) - 1 = ((i - 1 : Nat) : Int) := by omega
  rw [e, i64_and_nat _ _ (by omega) (by omega)]
section
variable {P : Program} {ops : Array Oper} {rest : List Oper} {Q : Exit -> Act -> World -> Prop} {a : Act} {w : World}
theorem wpList_load_row (t : TypeId) {dst : Option Tmp} {x : Operand} {ty : TypeId} {pos : String} {after : Array Edge} (b : Nat) (c : Array Value) (t' : TypeId) (fz : Nat × Nat) (d : TypeDesc) (hu : P.underlying t = some d) (hd : (match d with | .struct _ | .array _ _ => true | _ => false) = true)
  (hi : (P.info? t).map (·.size) = some c.size) (hx : a.eval x = .pointer (some ⟨b, 0, none⟩)) (hb : w.heap[b]? = some (.cells c t' fz)) (h : wpList P ops Q rest (a.put dst (.agg c)) w) :
  wpList P ops Q (⟨dst, .load t x, ty, pos, after, none⟩ :: rest) a w := by
 refine wpList_plain rfl fun K hK => ?_
 unfold Oper.wp
 simp only [execOp, hx, Instr.loadAt, Instr.sureAddr, Sem.run_bind, Sem.run_pure, Result.andThen_ok, run_loadVar_row w b t' t c fz d hb hu hd hi]
 exact hK _ _ h
end
theorem lt_of {w : World} {b : Nat} {o : Obj} (h : w.heap[b]? = some o) : b < w.heap.size := lt_of_block h
theorem at_new3 (w : World) (a b c : Obj) : (((w.alloc a).alloc b).alloc c).heap[w.heap.size + 2]? = some c := by
 have h := heap_alloc_last ((w.alloc a).alloc b) c
 have e : ((w.alloc a).alloc b).heap.size = w.heap.size + 2 := by simp
 rwa [e] at h
theorem at_new2 (w : World) (a b c : Obj) : (((w.alloc a).alloc b).alloc c).heap[w.heap.size + 1]? = some b := by
 rw [Below.heap_alloc _ _ _ (by simp)]
 have h := heap_alloc_last (w.alloc a) b
 have e : (w.alloc a).heap.size = w.heap.size + 1 := by simp
 rwa [e] at h
theorem at_new1 (w : World) (a b c : Obj) : (((w.alloc a).alloc b).alloc c).heap[w.heap.size]? = some a := by
 rw [Below.heap_alloc _ _ _ (by simp; omega), Below.heap_alloc _ _ _ (by simp)]
 exact heap_alloc_last w a
theorem results_cell {fn : Func} {p : Tmp} {ty : TypeId} (h : fn.results = #[.cell p ty]) (tmps : Array Value) (P : Program) (w : World) :
  (results fn tmps).run P w = ((asAddr (tmps.getD p undef)).run P w).andThen fun a w₁ => (loadVar ty a).run P w₁ := by
 simp only [results, h]
 simp [Sem.run_bind, Result.andThen]
abbrev ruleV (kd wd pol : Int) (lo : Bool) (tn : Int) : Array Value := #[.int .i64 kd, .int .i64 wd, .int .u32 pol, .bool lo, .int .u32 tn]
theorem table_spec (kd wd pol tn : Int) (lo : Bool) (F : Nat -> Nat) (hF : ∀ j, F j < 4294967296) (hX : ∀ a b, F (a ^^^ b) = F a ^^^ F b)
  (hM : ∀ (b : Nat), b < 256 -> ∀ w, Calls Tryz.prog 196 #[.agg (ruleV kd wd pol lo tn), .int .u32 (b : Int)] w fun e w' => e = .returned (.int .u32 (F b : Int)) /\ Lo w w') (w : World) :
  Calls Tryz.prog 164 #[.agg (ruleV kd wd pol lo tn)] w fun e w' => e = .returned (.agg (tabV F 256)) /\ Lo w w' := by
 have hz := (zero_of_info info198).1
 rw [<- tabV_zero F] at hz
 have HI : Hid ((Tryz.prog.info? 198).map (·.size) = some 256) := (zero_of_info info198).2
 have hZs : Hid ((tabV F 0).size = 256) := tabV_size F 0
 have HM := kQ hM
 have HX := kQ hX
 have HF := kQ hF
 clear hM hX hF
 go_enter Tryz.func164, Tryz.ntmps164
 go_wp2_with fail
 go_loopw [6] (fun t wr => ∃ i : Nat, i <= 256 /\ t = .int .i64 (i : Int) /\ wr.heap[w.heap.size + 2]? = some (.cells (tabV F i) 198 (0, 0)) /\ wr.heap[w.heap.size + 1]? = some (.cells (tabV F 0) 198 (0, 0)) /\ wr.heap[w.heap.size]? = some (.cells (ruleV kd wd pol lo tn) 195 (0, 0)) /\ Lo w wr) (fun t _ => 256 - (intOf t).toNat)
 case atStart =>
  refine ⟨0, Nat.zero_le _, rfl, ?_, ?_, ?_, ?_⟩
  ·exact at_new3 w _ _ _
  ·exact at_new2 w _ _ _
  ·exact at_new1 w _ _ _
  ·exact (((Below.refl w.heap.size w).alloc (Nat.le_refl _) _).alloc (by simp) _).alloc (by simp; omega) _
 case round =>
  obtain ⟨i, hi, rfl, hb2, hb1, hb0, hB⟩ := hrel;by_cases hlt : i < 256
  ·have hand := and_less i hlt
   have hsz := hB.size;have hl2 := lt_of hb2
   rcases low_bit ⟨i, hlt⟩ with h0 | ⟨h1, h2, h3⟩
   ·simp only at h0
    rw [h0] at hand;have HB2 := kQ hb2;have HB1 := kQ hb1;have HB0 := kQ hb0;have HB := kQ hB;have HL2 := kQ hl2;have c0 : wr.cell? ⟨w.heap.size, 0, none⟩ = some (.int .i64 kd) := by rw [cell_of_row _ _ _ _ _ _ hb0]; rfl
    have c1 : wr.cell? ⟨w.heap.size, 1, none⟩ = some (.int .i64 wd) := by rw [cell_of_row _ _ _ _ _ _ hb0]; rfl
    have c2 : wr.cell? ⟨w.heap.size, 2, none⟩ = some (.int .u32 pol) := by rw [cell_of_row _ _ _ _ _ _ hb0]; rfl
    have c3 : wr.cell? ⟨w.heap.size, 3, none⟩ = some (.bool lo) := by rw [cell_of_row _ _ _ _ _ _ hb0]; rfl
    have c4 : wr.cell? ⟨w.heap.size, 4, none⟩ = some (.int .u32 tn) := by rw [cell_of_row _ _ _ _ _ _ hb0]; rfl
    clear hb2 hb1 hb0 hB h0 hl2 hsz
    go_wp2_with fail
    refine (HM.out i hlt _).mono ?_;rintro e w1 ⟨rfl, hB1⟩
    have K2 : Hid (w1.heap[w.heap.size + 2]? = some (.cells (tabV F i) 198 (0, 0))) := by
     show _ = _;rw [hB1.block _ HL2.out]; exact HB2.out
    have K1 : Hid (w1.heap[w.heap.size + 1]? = some (.cells (tabV F 0) 198 (0, 0))) := by
     show _ = _;rw [hB1.block _ (by have := HL2.out; omega)]; exact HB1.out
    have K0 : Hid (w1.heap[w.heap.size]? = some (.cells (ruleV kd wd pol lo tn) 195 (0, 0))) := by
     show _ = _;rw [hB1.block _ (by have := HL2.out; omega)]; exact HB0.out
    have KB := kQ (HB.out.trans (hB1.mono HB.out.size))
    have ci : w1.cell? ⟨w.heap.size + 1 + 1, i, none⟩ = some (.int .u32 0) := by
     rw [cell_of_row _ _ _ _ _ _ K2.out, tabV_get F i i hlt];simp
    have fi : w1.frozen? ⟨w.heap.size + 1 + 1, i, none⟩ = false := by
     have := K2.out;simp [World.frozen?, this]
    clear hB1
    go_wp2
    go_roundw
    case rel =>
     exact ⟨i + 1, by omega, by go_num, by rw [block_setCell _ _ _ _ _ _ K2.out, tabV_set F i hlt], by rw [Below.heap_setCell _ _ _ _ (by simp)]; exact K1.out,
      by rw [Below.heap_setCell _ _ _ _ (by simp; omega)]; exact K0.out, KB.out.setCell (by simp; omega) _⟩
    case measure => simp [intOf]; omega
   ·simp only at h1 h2 h3
    have hr0 : ¬ ((i &&& (i - 1) : Nat) : Int) = 0 := by
     intro e;have e' : i &&& (i - 1) = 0 := by omega
     rw [e'] at h2;simp at h2
    have hxor : bits .xor .i64 (i : Int) ((i &&& (i - 1) : Nat) : Int) = ((i ^^^ (i &&& (i - 1)) : Nat) : Int) := i64_xor_nat _ _ (by omega) (by omega)
    generalize i &&& (i - 1) = r at *;generalize hq : i ^^^ r = q at *
    have hfx : bits .xor .u32 (F r : Int) (F q : Int) = (F i : Int) := by
     rw [u32_xor_nat _ _ (HF.out r) (HF.out q), <- HX.out, h3]
    have cr : wr.cell? ⟨w.heap.size + 1 + 1, r, none⟩ = some (.int .u32 (F r : Int)) := by
     rw [cell_of_row _ _ _ _ _ _ hb2, tabV_get F i r (by omega), if_pos h1]
    have cq : wr.cell? ⟨w.heap.size + 1 + 1, q, none⟩ = some (.int .u32 (F q : Int)) := by
     rw [cell_of_row _ _ _ _ _ _ hb2, tabV_get F i q (by omega), if_pos h2]
    have ci : wr.cell? ⟨w.heap.size + 1 + 1, i, none⟩ = some (.int .u32 0) := by
     rw [cell_of_row _ _ _ _ _ _ hb2, tabV_get F i i hlt];simp
    have fi : wr.frozen? ⟨w.heap.size + 1 + 1, i, none⟩ = false := by
     simp [World.frozen?, hb2]
    have K2 := kQ hb2;have K1 := kQ hb1;have K0 := kQ hb0;have KB := kQ hB;clear hb2 hb1 hb0 hB h3 hq hl2 hsz
    go_wp2_with fail
    go_region
    all_goals go_wp2
    go_roundw
    case rel =>
     refine ⟨i + 1, by omega, by go_num, ?_, ?_, ?_, (KB.out.setCell (by simp; omega) _).drew⟩
     ·show (wr.setCell _ _).heap[_]? = _
      rw [block_setCell _ _ _ _ _ _ K2.out, tabV_set F i hlt]
     ·show (wr.setCell _ _).heap[_]? = _
      rw [Below.heap_setCell _ _ _ _ (by simp)]
      exact K1.out
     ·show (wr.setCell _ _).heap[_]? = _
      rw [Below.heap_setCell _ _ _ _ (by simp; omega)]
      exact K0.out
    case measure => simp [intOf]; omega
  ·have h8 : i = 256 := by omega
   have HB2 : Hid (wr.heap[w.heap.size + 2]? = some (.cells (tabV F 256) 198 (0, 0))) := by rw [h8] at hb2; exact hb2
   have HB1 := kQ hb1;have HB := kQ hB;clear hb2 hb1 hb0 hB h8
   go_upto_region 10 with fail
   go_wp2_with (first | (refine wpList_load_row 198 (w.heap.size + 2) (tabV F 256) 198 (0, 0) (.array 256 193) Tryz.underlying198 rfl (by rw [tabV_size]; exact HI.out) rfl HB2.out ?_) | (refine wpList_store_row rfl 198 (.tmp 2) (.tmp 33) rfl (w.heap.size + 1) (tabV F 256) rfl rfl 198 (tabV F 0) HB1.out (by rw [tabV_size]; exact HI.out) (by rw [tabV_size, tabV_size]) (by simp [tabV, Value.oneCell']) ?_))
   refine bodyPost_ret (v := .agg (tabV F 256)) ?_ rfl ⟨rfl, ?_⟩
   ·rw [results_cell rfl]
    have hld := run_loadVar_row (P := Tryz.prog) _ (w.heap.size + 1) 198 198 (tabV F 256) (0, 0) _ (setRow_heap wr (w.heap.size + 1) _ (tabV F 256) 198 (0, 0) HB1.out) Tryz.underlying198 rfl (by rw [tabV_size]; exact HI.out)
    simp [asAddr, Result.andThen, Act.put, hld]
   ·exact HB.out.trans ⟨rfl, rfl, rfl, by simp, fun k hk => setRow_other _ _ _ _ (by omega)⟩
def rulesA : Array Value := #[.int .i64 8, .int .i64 8, .int .u32 7, .bool false, .int .u32 0, .int .i64 16, .int .i64 16, .int .u32 32773, .bool false, .int .u32 0,
 .int .i64 32, .int .i64 32, .int .u32 79764919, .bool false, .int .u32 0, .int .i64 33, .int .i64 32, .int .u32 3988292384, .bool true, .int .u32 4294967295]
def RulesAt (w : World) : Prop := ∃ t fz, w.heap[3]? = some (.cells rulesA t fz)
theorem RulesAt.size {w : World} (h : RulesAt w) : 3 < w.heap.size := by
 obtain ⟨t, fz, h⟩ := h
 exact lt_of_block h
theorem RulesAt.below {w w' : World} (h : RulesAt w) (hB : Lo w w') : RulesAt w' := by
 have hs := h.size
 obtain ⟨t, fz, h⟩ := h
 exact ⟨t, fz, by rw [hB.block 3 hs]; exact h⟩
theorem info225 : (Tryz.prog.info? 225).map (·.size) = some rulesA.size := by kernel_rfl
theorem idx0 (w : World) : (Instr.index 225 (.agg rulesA) (.int .i64 0)).run Tryz.prog w = .ok (.agg (ruleV 8 8 7 false 0)) w := by kernel_rfl
theorem idx1 (w : World) : (Instr.index 225 (.agg rulesA) (.int .i64 1)).run Tryz.prog w = .ok (.agg (ruleV 16 16 32773 false 0)) w := by kernel_rfl
theorem idx2 (w : World) : (Instr.index 225 (.agg rulesA) (.int .i64 2)).run Tryz.prog w = .ok (.agg (ruleV 32 32 79764919 false 0)) w := by kernel_rfl
theorem idx3 (w : World) : (Instr.index 225 (.agg rulesA) (.int .i64 3)).run Tryz.prog w = .ok (.agg (ruleV 33 32 3988292384 true 4294967295)) w := by kernel_rfl
theorem ruleOf_8 (w : World) (hR : RulesAt w) :
  Calls Tryz.prog 163 #[.int .i64 8] w fun e w' => e = .returned (.tuple #[.agg (ruleV 8 8 7 false 0), .bool true]) /\ Lo w w' := by
 obtain ⟨t, fz, hb⟩ := hR
 have HB : Hid ((w.alloc (.cells #[.int .i64 0, .int .i64 0, .int .u32 0, .bool false, .int .u32 0] 195)).heap[3]? = some (.cells rulesA t fz)) := by
  show _ = _;rw [Below.heap_alloc _ _ _ (lt_of_block hb)];exact hb
 have hs := lt_of_block hb
 clear hb
 have i0 := idx0
 have i1 := idx1
 have i2 := idx2
 have i3 := idx3
 go_enter Tryz.func163, Tryz.ntmps163
 go_wp2_with (refine wpList_load_row 225 3 rulesA t fz (.array 4 195) Tryz.underlying225 rfl info225 rfl HB.out ?_)
 clear HB
 refine wp_loop_rounds 1 ?_
 rw [rounds_succ]
 go_wp2
 refine bodyPost_ret (v := .tuple #[.agg (ruleV 8 8 7 false 0), .bool true]) ?_ rfl ⟨rfl, ?_⟩
 ·rw [results_cell_tmp rfl]
  simp [asAddr, Result.andThen, go_sem]
 ·exact aQ.alloc (by simp) _
theorem ruleOf_16 (w : World) (hR : RulesAt w) :
  Calls Tryz.prog 163 #[.int .i64 16] w fun e w' => e = .returned (.tuple #[.agg (ruleV 16 16 32773 false 0), .bool true]) /\ Lo w w' := by
 obtain ⟨t, fz, hb⟩ := hR
 have HB : Hid ((w.alloc (.cells #[.int .i64 0, .int .i64 0, .int .u32 0, .bool false, .int .u32 0] 195)).heap[3]? = some (.cells rulesA t fz)) := by
  show _ = _;rw [Below.heap_alloc _ _ _ (lt_of_block hb)];exact hb
 have hs := lt_of_block hb
 clear hb
 have i0 := idx0
 have i1 := idx1
 have i2 := idx2
 have i3 := idx3
 go_enter Tryz.func163, Tryz.ntmps163
 go_wp2_with (refine wpList_load_row 225 3 rulesA t fz (.array 4 195) Tryz.underlying225 rfl info225 rfl HB.out ?_)
 clear HB
 refine wp_loop_rounds 2 ?_
 rw [rounds_succ]
 go_wp2
 rw [rounds_succ]
 go_wp2
 refine bodyPost_ret (v := .tuple #[.agg (ruleV 16 16 32773 false 0), .bool true]) ?_ rfl ⟨rfl, ?_⟩
 ·rw [results_cell_tmp rfl]
  simp [asAddr, Result.andThen, go_sem]
 ·exact (aQ.alloc (by simp) _).alloc (by simp; omega) _
end S3
end Go.Proofs.YtfpfabmbipmipaaGreatDoor
