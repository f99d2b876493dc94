/- Own text: plain laws of the digest: its steps, blocks and padding; what a sum holds between pieces; the machine's operations on registers of 32 bits. It speaks of no program. -/
import Derived.Test.YtolmijpecomkcaaDoorPlain
import Derived.Laws.BitsAllLaws
import Derived.WalkKit
namespace Go.Proofs.YtolmijpecomkcaaDoor
open Go.RowKit
set_option linter.unusedSimpArgs false
set_option linter.unusedVariables false

/-- The sizes of sines. -/
def kL : List Nat := [0xd76aa478, 0xe8c7b756, 0x242070db, 0xc1bdceee, 0xf57c0faf, 0x4787c62a, 0xa8304613, 0xfd469501,
  0x698098d8, 0x8b44f7af, 0xffff5bb1, 0x895cd7be, 0x6b901122, 0xfd987193, 0xa679438e, 0x49b40821,
  0xf61e2562, 0xc040b340, 0x265e5a51, 0xe9b6c7aa, 0xd62f105d, 0x02441453, 0xd8a1e681, 0xe7d3fbc8,
  0x21e1cde6, 0xc33707d6, 0xf4d50d87, 0x455a14ed, 0xa9e3e905, 0xfcefa3f8, 0x676f02d9, 0x8d2a4c8a,
  0xfffa3942, 0x8771f681, 0x6d9d6122, 0xfde5380c, 0xa4beea44, 0x4bdecfa9, 0xf6bb4b60, 0xbebfbc70,
  0x289b7ec6, 0xeaa127fa, 0xd4ef3085, 0x04881d05, 0xd9d4d039, 0xe6db99e5, 0x1fa27cf8, 0xc4ac5665,
  0xf4292244, 0x432aff97, 0xab9423a7, 0xfc93a039, 0x655b59c3, 0x8f0ccc92, 0xffeff47d, 0x85845dd1,
  0x6fa87e4f, 0xfe2ce6e0, 0xa3014314, 0x4e0811a1, 0xf7537e82, 0xbd3af235, 0x2ad7d2bb, 0xeb86d391]

def rL : List Nat := [7, 12, 17, 22, 5, 9, 14, 20, 4, 11, 16, 23, 6, 10, 15, 21]

def kOf (i : Nat) : BitVec 32 := BitVec.ofNat 32 (kL.getD i 0)
def turnOf (i : Nat) : Nat := rL.getD (i / 16 * 4 + i % 4) 0

def fOf (i : Nat) (b c d : BitVec 32) : BitVec 32 :=
  if i / 16 = 0 then (b &&& c) ||| (~~~b &&& d) else if i / 16 = 1 then (d &&& b) ||| (~~~d &&& c) else if i / 16 = 2 then b ^^^ c ^^^ d else c ^^^ (b ||| ~~~d)
def gOf (i : Nat) : Nat := if i / 16 = 0 then i else if i / 16 = 1 then (5 * i + 1) % 16 else if i / 16 = 2 then (3 * i + 5) % 16 else 7 * i % 16

theorem gOf_lt (i : Nat) (h : i < 64) : gOf i < 16 := by
  unfold gOf
  split
  · omega
  · split
    · omega
    · split <;> omega

theorem turn_all : ∀ i : Fin 64, 4 ≤ turnOf i.val ∧ turnOf i.val ≤ 23 := by decide +kernel
theorem turn_range (i : Nat) (h : i < 64) : 4 ≤ turnOf i ∧ turnOf i ≤ 23 := turn_all ⟨i, h⟩
theorem k_all : ∀ i : Fin 64, kL.getD i.val 0 < 4294967296 := by decide +kernel
theorem k_lt (i : Nat) (h : i < 64) : kL.getD i 0 < 4294967296 := k_all ⟨i, h⟩

/-- Four registers. -/
structure Reg4 where
  a : BitVec 32
  b : BitVec 32
  c : BitVec 32
  d : BitVec 32

def rot (f : BitVec 32) (r : Nat) : BitVec 32 := (f <<< r) ||| (f >>> (32 - r))

def mstep (x : Nat → BitVec 32) (q : Reg4) (i : Nat) : Reg4 := ⟨q.d, q.b + rot (q.a + fOf i q.b q.c q.d + kOf i + x (gOf i)) (turnOf i), q.b, q.c⟩

def msteps (x : Nat → BitVec 32) (q : Reg4) : Nat → Reg4
  | 0 => q
  | n + 1 => mstep x (msteps x q n) n

/-- The g-th number of 64 bytes. -/
def wordN (l : List Nat) (g : Nat) : Nat := val [l.getD (4 * g + 3) 0, l.getD (4 * g + 2) 0, l.getD (4 * g + 1) 0, l.getD (4 * g) 0]
def word (l : List Nat) (g : Nat) : BitVec 32 := BitVec.ofNat 32 (wordN l g)

theorem wordN_lt (l : List Nat) (g : Nat) (h : ∀ b ∈ l, b < 256) : wordN l g < 4294967296 := by
  have hb : ∀ j, l.getD j 0 < 256 := by
    intro j
    rw [List.getD_eq_getElem?_getD]
    cases hx : l[j]? with
    | none => simp
    | some x => exact h x (List.mem_of_getElem? hx)
  have h0 := val_lt [l.getD (4 * g + 3) 0, l.getD (4 * g + 2) 0, l.getD (4 * g + 1) 0, l.getD (4 * g) 0] (by
    intro b hb'
    simp only [List.mem_cons, List.not_mem_nil, or_false] at hb'
    rcases hb' with e | e | e | e <;> rw [e] <;> exact hb _)
  have h1 : wordN l g < 256 ^ 4 := h0
  have e : (256 : Nat) ^ 4 = 4294967296 := by decide
  omega

def mblock (q : Reg4) (l : List Nat) : Reg4 :=
  ⟨q.a + (msteps (word l) q 64).a, q.b + (msteps (word l) q 64).b, q.c + (msteps (word l) q 64).c, q.d + (msteps (word l) q 64).d⟩

/-- The first n blocks of 64 bytes. -/
def mblocks (q : Reg4) (l : List Nat) : Nat → Reg4
  | 0 => q
  | n + 1 => mblock (mblocks q l n) ((l.drop (64 * n)).take 64)

theorem mblocks_append (q : Reg4) (l t : List Nat) : ∀ n, 64 * n ≤ l.length → mblocks q (l ++ t) n = mblocks q l n
  | 0, _ => rfl
  | n + 1, h => by
    have e : ((l ++ t).drop (64 * n)).take 64 = (l.drop (64 * n)).take 64 := by
      rw [List.drop_append, List.take_append_of_le_length (by rw [List.length_drop]; omega)]
    show mblock (mblocks q (l ++ t) n) (((l ++ t).drop (64 * n)).take 64) = _
    rw [e, mblocks_append q l t n (by omega)]
    rfl

theorem mblocks_add (q : Reg4) (l : List Nat) (n : Nat) : ∀ m, mblocks q l (n + m) = mblocks (mblocks q l n) (l.drop (64 * n)) m
  | 0 => rfl
  | m + 1 => by
    show mblock (mblocks q l (n + m)) ((l.drop (64 * (n + m))).take 64) = mblock (mblocks (mblocks q l n) (l.drop (64 * n)) m) (((l.drop (64 * n)).drop (64 * m)).take 64)
    rw [mblocks_add q l n m, List.drop_drop, Nat.mul_add]

def q0 : Reg4 := ⟨0x67452301#32, 0xEFCDAB89#32, 0x98BADCFE#32, 0x10325476#32⟩

/-- What stands behind a text of n bytes. -/
def behind (n : Nat) : List Nat := 128 :: (List.replicate ((119 - n % 64) % 64) 0 ++ lowL (8 * n) 8)

theorem behind_length (n : Nat) : (behind n).length = 9 + (119 - n % 64) % 64 := by
  unfold behind
  rw [List.length_cons, List.length_append, List.length_replicate, lowL_length]
  omega

theorem behind_lt (n : Nat) : ∀ b ∈ behind n, b < 256 := by
  intro b hb
  unfold behind at hb
  rcases List.mem_cons.1 hb with h | h
  · omega
  · rcases List.mem_append.1 h with h | h
    · have := List.eq_of_mem_replicate h
      omega
    · exact lowL_lt _ _ b h

def padded (l : List Nat) : List Nat := l ++ behind l.length

theorem padded_length (l : List Nat) : (padded l).length = 64 * ((l.length + 8) / 64 + 1) := by
  unfold padded
  rw [List.length_append, behind_length]
  omega

theorem padded_lt (l : List Nat) (h : ∀ b ∈ l, b < 256) : ∀ b ∈ padded l, b < 256 := by
  intro b hb
  rcases List.mem_append.1 hb with h1 | h1
  · exact h b h1
  · exact behind_lt _ b h1

def mdQ (l : List Nat) : Reg4 := mblocks q0 (padded l) ((l.length + 8) / 64 + 1)

def outQ (q : Reg4) : List Nat := lowL q.a.toNat 4 ++ lowL q.b.toNat 4 ++ lowL q.c.toNat 4 ++ lowL q.d.toNat 4

/-- The digest, its bytes. -/
def md5 (l : List Nat) : List Nat := outQ (mdQ l)

theorem outQ_length (q : Reg4) : (outQ q).length = 16 := by simp [outQ, lowL_length]
theorem md5_length (l : List Nat) : (md5 l).length = 16 := outQ_length _
theorem md5_lt (l : List Nat) : ∀ b ∈ md5 l, b < 256 := by
  intro b hb
  unfold md5 outQ at hb
  rcases List.mem_append.1 hb with hb | hb
  · rcases List.mem_append.1 hb with hb | hb
    · rcases List.mem_append.1 hb with hb | hb
      · exact lowL_lt _ _ b hb
      · exact lowL_lt _ _ b hb
    · exact lowL_lt _ _ b hb
  · exact lowL_lt _ _ b hb

/-- One digit of sixteen, as a letter. -/
def digit (n : Nat) : Nat := if n < 10 then 48 + n else 87 + n
def hexL (l : List Nat) : List Nat := l.flatMap fun b => [digit (b / 16), digit (b % 16)]

/-- What a sum holds between pieces: the registers behind the whole blocks, and the bytes that are left. -/
def soFar (l : List Nat) : Reg4 := mblocks q0 l (l.length / 64)
def left (l : List Nat) : List Nat := l.drop (64 * (l.length / 64))

theorem left_length (l : List Nat) : (left l).length = l.length % 64 := by
  unfold left
  rw [List.length_drop]
  omega

theorem soFar_nil : soFar [] = q0 := rfl
theorem left_nil : left [] = [] := rfl

/-- Less than a block: it is kept. -/
theorem keep_piece (l t : List Nat) (h : (left l).length + t.length < 64) : soFar (l ++ t) = soFar l ∧ left (l ++ t) = left l ++ t := by
  rw [left_length] at h
  have e : (l ++ t).length / 64 = l.length / 64 := by
    rw [List.length_append]
    omega
  constructor
  · unfold soFar
    rw [e, mblocks_append _ _ _ _ (by omega)]
  · unfold left
    rw [e, List.drop_append, List.append_cancel_left_eq]
    rw [show 64 * (l.length / 64) - l.length = 0 from by omega, List.drop_zero]

/-- A block is full: it is taken. -/
theorem full_piece (l t : List Nat) (h : (left l).length + t.length = 64) : soFar (l ++ t) = mblock (soFar l) (left l ++ t) ∧ left (l ++ t) = [] := by
  have hl := left_length l
  rw [hl] at h
  have e : (l ++ t).length / 64 = l.length / 64 + 1 := by
    rw [List.length_append]
    omega
  have e2 : ((l ++ t).drop (64 * (l.length / 64))) = left l ++ t := by
    unfold left
    rw [List.drop_append, show 64 * (l.length / 64) - l.length = 0 from by omega, List.drop_zero]
  constructor
  · unfold soFar
    rw [e]
    show mblock (mblocks q0 (l ++ t) (l.length / 64)) (((l ++ t).drop (64 * (l.length / 64))).take 64) = _
    rw [mblocks_append _ _ _ _ (by omega), e2, List.take_of_length_le (by rw [List.length_append, hl]; omega)]
  · unfold left
    rw [e]
    exact List.drop_eq_nil_of_le (by rw [List.length_append]; omega)

/-- The end: what is left and what stands behind it, one block or two. -/
theorem md_end (l : List Nat) : mdQ l = mblocks (soFar l) (left l ++ behind l.length) ((l.length % 64 + 8) / 64 + 1) := by
  unfold mdQ
  have e : (l.length + 8) / 64 + 1 = l.length / 64 + ((l.length % 64 + 8) / 64 + 1) := by omega
  rw [e, mblocks_add]
  have e1 : mblocks q0 (padded l) (l.length / 64) = soFar l := mblocks_append _ _ _ _ (by omega)
  have e2 : (padded l).drop (64 * (l.length / 64)) = left l ++ behind l.length := by
    unfold padded left
    rw [List.drop_append, show 64 * (l.length / 64) - l.length = 0 from by omega, List.drop_zero]
  rw [e1, e2]

/-- .. as one more piece: what is behind a text, added to it, leaves nothing. -/
theorem md_piece (l : List Nat) : mdQ l = soFar (l ++ behind l.length) := by
  unfold mdQ soFar
  have e : (l ++ behind l.length).length / 64 = (l.length + 8) / 64 + 1 := by
    have := padded_length l
    unfold padded at this
    rw [this]
    omega
  rw [e]
  rfl

theorem md5_none : md5 [] = [212, 29, 140, 217, 143, 0, 178, 4, 233, 128, 9, 152, 236, 248, 66, 126] := by decide +kernel
theorem md5_abc : md5 [97, 98, 99] = [144, 1, 80, 152, 60, 210, 79, 176, 214, 150, 63, 125, 40, 225, 127, 114] := by decide +kernel

section
variable (x y : BitVec 32)
theorem lt32' : x.toNat < 4294967296 := x.isLt
theorem m_add : ((x.toNat : Int) + (y.toNat : Int)) % 4294967296 = ((x + y).toNat : Int) := by
  rw [BitVec.toNat_add]
  simp
theorem m_and : bits .and .u32 (x.toNat : Int) (y.toNat : Int) = ((x &&& y).toNat : Int) := by
  rw [u32_and_nat _ _ x.isLt y.isLt, BitVec.toNat_and]
theorem m_or : bits .or .u32 (x.toNat : Int) (y.toNat : Int) = ((x ||| y).toNat : Int) := by
  rw [u32_or_nat _ _ x.isLt y.isLt, BitVec.toNat_or]
theorem m_xor : bits .xor .u32 (x.toNat : Int) (y.toNat : Int) = ((x ^^^ y).toNat : Int) := by
  rw [u32_xor_nat _ _ x.isLt y.isLt, BitVec.toNat_xor]
theorem m_not : 4294967295 - (x.toNat : Int) = ((~~~x).toNat : Int) := by
  rw [BitVec.toNat_not]
  have := x.isLt
  omega
theorem m_shl (r : Nat) : (x.toNat : Int) * 2 ^ r % 4294967296 = ((x <<< r).toNat : Int) := by
  rw [BitVec.toNat_shiftLeft, Nat.shiftLeft_eq]
  simp
theorem m_shr (r : Nat) : (x.toNat : Int) / 2 ^ r = ((x >>> r).toNat : Int) := by
  rw [BitVec.toNat_ushiftRight, Nat.shiftRight_eq_div_pow]
  simp
end

end Go.Proofs.YtolmijpecomkcaaDoor
