/- Own text: metadata, plainly: STREAMINFO, blocks, their bytes; what was laid is read, what was read is laid. -/
import Derived.Test.YtfmpiidnemhijaaDoorBacklist
import Derived.Test.YtfmpiidnemhijaaDoorS2froms
namespace Go.Proofs.YtfmpiidnemhijaaDoor
open Go.RowKit
set_option linter.unusedSimpArgs false
set_option linter.unusedVariables false

/-- What STREAMINFO says. -/
structure Sti where
  mn : Int
  mx : Int
  mf : Int
  xf : Int
  rt : Int
  ch : Int
  wd : Int
  sm : Int
  dg : ByteArray
abbrev Sti0 : Sti := ⟨0, 0, 0, 0, 0, 0, 0, 0, ⟨#[]⟩⟩
/-- A block. -/
structure Blk where
  ty : Int
  body : ByteArray
def fltE (i : Sti) : Int := if i.mn < 16 ∨ i.mx < i.mn ∨ i.rt = 0 then 2 else if i.wd < 4 ∨ 24 < i.wd ∨ 4608 < i.mx ∨ 655350 < i.rt then 3 else if 1048576 < i.sm then 5 else 0
def infS (s : ByteArray) : Sti := ⟨bitsAt s 0 16, bitsAt s 16 16, bitsAt s 32 24, bitsAt s 56 24, bitsAt s 80 20, (bitsAt s 100 3 : Int) + 1, (bitsAt s 103 5 : Int) + 1, bitsAt s 108 36, s.extract 18 s.size⟩
def infE (s : ByteArray) : Int := if s.size = 34 then fltE (infS s) else 2
def infR (s : ByteArray) : Sti := if infE s = 0 then infS s else Sti0
/-- A number in its bits. -/
abbrev inN (x : Int) (k : Nat) : Prop := 0 ≤ x ∧ x < 2 ^ k
abbrev numsOk (i : Sti) : Prop := inN i.mn 16 ∧ inN i.mx 16 ∧ inN i.mf 24 ∧ inN i.xf 24 ∧ inN i.rt 20 ∧ inN (i.ch - 1) 3 ∧ inN (i.wd - 1) 5 ∧ inN i.sm 36
def layB (i : Sti) : List Nat := bitsOf i.mn.toNat 16 ++ bitsOf i.mx.toNat 16 ++ bitsOf i.mf.toNat 24 ++ bitsOf i.xf.toNat 24 ++ bitsOf i.rt.toNat 20 ++ bitsOf (i.ch - 1).toNat 3 ++ bitsOf (i.wd - 1).toNat 5 ++ bitsOf i.sm.toNat 36
def numT (i : Sti) : ByteArray := textOf (pack (layB i))
abbrev layOk (i : Sti) : Prop := numsOk i ∧ i.dg.size = 16 ∧ fltE i = 0
theorem layB_length (i : Sti) : (layB i).length = 144 := by
  unfold layB
  simp only [List.length_append, bitsOf_length]
theorem layB_01 (i : Sti) : Bits01 (layB i) := by
  unfold layB
  exact ((((((((bitsOf_01 _ _).append (bitsOf_01 _ _)).append (bitsOf_01 _ _)).append (bitsOf_01 _ _)).append (bitsOf_01 _ _)).append (bitsOf_01 _ _)).append (bitsOf_01 _ _)).append (bitsOf_01 _ _))
theorem numT_size (i : Sti) : (numT i).size = 18 := by
  unfold numT
  rw [S2.textOf_size, pack_length, layB_length]
theorem bytesOf_numT (i : Sti) : bytesOf (numT i) = pack (layB i) := S2.bytesOf_textOf _ (pack_256 _ (layB_01 i))
theorem num_bitsOfX (v k : Nat) (h : v < 2 ^ k) : num (bitsOf v k) = v := by
  rw [num_bitsOf]
  exact Nat.mod_eq_of_lt h
theorem bits_atX {s : ByteArray} {a k v : Nat} {Z : List Nat} (h : ahead s a = bitsOf v k ++ Z) (hv : v < 2 ^ k) : bitsAt s a k = v ∧ ahead s (a + k) = Z := by
  have hl := bitsOf_length v k
  refine ⟨?_, ?_⟩
  · show num ((ahead s a).take k) = v
    rw [h, List.take_append_of_le_length (by omega), List.take_of_length_le (by omega), num_bitsOfX v k hv]
  · rw [← ahead_drop, h, List.drop_append_of_le_length (by omega), List.drop_of_length_le (by omega), List.nil_append]
theorem toN_lt {x : Int} {k : Nat} (h : inN x k) : x.toNat < 2 ^ k := by
  have h2 := h.2
  rw [← Int.toNat_of_nonneg h.1] at h2
  exact_mod_cast h2
theorem bytesOf_ext (s : ByteArray) (a b : Nat) : bytesOf (s.extract a b) = ((bytesOf s).take b).drop a := by
  unfold bytesOf
  rw [ByteArray.data_extract, Array.toList_extract, List.extract_eq_drop_take', List.map_drop, List.map_take]
theorem bytes_inj {a b : ByteArray} (h : bytesOf a = bytesOf b) : a = b := by rw [← S2.textOf_bytesOf a, h, S2.textOf_bytesOf]
theorem ext_tail (a b : ByteArray) (k : Nat) (hk : a.size = k) : (a ++ b).extract k (a ++ b).size = b := by
  subst hk
  apply bytes_inj
  have hl := bytesOf_length a
  rw [bytesOf_ext, List.take_of_length_le (by rw [bytesOf_length]; exact Nat.le_refl _), S2.bytesOf_append, List.drop_append_of_le_length (by omega), List.drop_of_length_le (by omega), List.nil_append]
/-- What was laid is read. -/
theorem lay_read (i : Sti) (h : numsOk i) : infS (numT i ++ i.dg) = i := by
  obtain ⟨h0, h1, h2, h3, h4, h5, h6, h7⟩ := h
  have hs := sbits_pack (layB i) (layB_01 i)
  have ha : ahead (numT i ++ i.dg) 0 = layB i ++ sbits (bytesOf i.dg) := by
    obtain ⟨Z, e1, e2⟩ := hs
    have hz : Z = [] := by
      rw [List.length_append, layB_length] at e2
      exact List.length_eq_zero_iff.1 (by omega)
    subst hz
    unfold ahead
    rw [List.drop_zero, S2.bytesOf_append, sbits_append, bytesOf_numT, e1, List.append_nil]
  unfold layB at ha
  simp only [List.append_assoc] at ha
  obtain ⟨b0, ha⟩ := bits_atX ha (toN_lt h0)
  obtain ⟨b1, ha⟩ := bits_atX ha (toN_lt h1)
  obtain ⟨b2, ha⟩ := bits_atX ha (toN_lt h2)
  obtain ⟨b3, ha⟩ := bits_atX ha (toN_lt h3)
  obtain ⟨b4, ha⟩ := bits_atX ha (toN_lt h4)
  obtain ⟨b5, ha⟩ := bits_atX ha (toN_lt h5)
  obtain ⟨b6, ha⟩ := bits_atX ha (toN_lt h6)
  obtain ⟨b7, ha⟩ := bits_atX ha (toN_lt h7)
  have b1' : bitsAt (numT i ++ i.dg) 16 16 = i.mx.toNat := b1
  have b2' : bitsAt (numT i ++ i.dg) 32 24 = i.mf.toNat := b2
  have b3' : bitsAt (numT i ++ i.dg) 56 24 = i.xf.toNat := b3
  have b4' : bitsAt (numT i ++ i.dg) 80 20 = i.rt.toNat := b4
  have b5' : bitsAt (numT i ++ i.dg) 100 3 = (i.ch - 1).toNat := b5
  have b6' : bitsAt (numT i ++ i.dg) 103 5 = (i.wd - 1).toNat := b6
  have b7' : bitsAt (numT i ++ i.dg) 108 36 = i.sm.toNat := b7
  have e18 : (numT i ++ i.dg).extract 18 (numT i ++ i.dg).size = i.dg := ext_tail _ _ 18 (numT_size i)
  unfold infS
  rw [b0, b1', b2', b3', b4', b5', b6', b7', e18, Int.toNat_of_nonneg h0.1, Int.toNat_of_nonneg h1.1, Int.toNat_of_nonneg h2.1, Int.toNat_of_nonneg h3.1, Int.toNat_of_nonneg h4.1, Int.toNat_of_nonneg h5.1, Int.toNat_of_nonneg h6.1, Int.toNat_of_nonneg h7.1, Int.sub_add_cancel, Int.sub_add_cancel]
theorem lay_infE (i : Sti) (h : numsOk i) : infE (numT i ++ i.dg) = if i.dg.size = 16 then fltE i else 2 := by
  unfold infE
  rw [lay_read i h, ByteArray.size_append, numT_size]
  by_cases e : i.dg.size = 16
  · rw [if_pos (by omega), if_pos e]
  · rw [if_neg (by omega), if_neg e]
theorem fltE_cases (i : Sti) : fltE i = 0 ∨ fltE i = 2 ∨ fltE i = 3 ∨ fltE i = 5 := by
  unfold fltE
  split
  · simp
  · split
    · simp
    · split <;> simp

/-- A number of some bytes, the highest first. -/
def numA (s : ByteArray) (a k : Nat) : Nat := S2.val (bytesOf (s.extract a (a + k)))
theorem ext_len (s : ByteArray) (a b : Nat) (h1 : a ≤ b) (h2 : b ≤ s.size) : (s.extract a b).size = b - a := by
  rw [ByteArray.size_extract, Nat.min_eq_left h2]
theorem ext_le (s : ByteArray) (a b : Nat) : (s.extract a b).size ≤ b - a := by
  rw [ByteArray.size_extract]
  omega
theorem val_small (t : ByteArray) (k : Nat) (h : t.size ≤ k) (hk : k ≤ 4) : S2.val (bytesOf t) < 256 ^ k ∧ S2.fromBe (bytesOf t) = (S2.val (bytesOf t) : Int) := by
  have h1 := S2.val_lt (bytesOf t) (bytesOf_lt t)
  rw [bytesOf_length] at h1
  have h2 : 256 ^ t.size ≤ 256 ^ k := Nat.pow_le_pow_right (by decide) h
  have h3 : 256 ^ k ≤ 256 ^ 4 := Nat.pow_le_pow_right (by decide) hk
  have h4 : (256 : Nat) ^ 4 = 4294967296 := by decide
  exact ⟨by omega, S2.fromBe_of _ (by rw [bytesOf_length]; omega) (by omega)⟩
theorem numA_lt (s : ByteArray) (a k : Nat) (hk : k ≤ 4) : numA s a k < 256 ^ k := (val_small _ k (by have := ext_le s a (a + k); omega) hk).1
theorem numA_be (s : ByteArray) (a k : Nat) (hk : k ≤ 4) : S2.fromBe (bytesOf (s.extract a (a + k))) = (numA s a k : Int) := (val_small _ k (by have := ext_le s a (a + k); omega) hk).2
theorem numA_one (s : ByteArray) (a : Nat) (h : a < s.size) : numA s a 1 = (s[a]'h).toNat := by
  unfold numA
  rw [bytesOf_ext, S2.take_bytes s a h, List.drop_append_of_le_length (by rw [List.length_take, bytesOf_length]; omega), List.drop_of_length_le (by rw [List.length_take, bytesOf_length]; omega), List.nil_append, S2.val_cons]
  simp [S2.val_nil]

/-- A place in a text, or none any more. -/
def takeO (s : ByteArray) (o : Option Nat) (n : Nat) : Option Nat := match o with
  | some a => if a + n ≤ s.size then some (a + n) else none
  | none => none
def takeT (s : ByteArray) (o : Option Nat) (n : Nat) : ByteArray := match o with
  | some a => if a + n ≤ s.size then s.extract a (a + n) else ⟨#[]⟩
  | none => ⟨#[]⟩
def numO (s : ByteArray) (o : Option Nat) (k : Nat) : Nat := S2.val (bytesOf (takeT s o k))
theorem takeT_le (s : ByteArray) (o : Option Nat) (n : Nat) : (takeT s o n).size ≤ n ∧ (takeT s o n).size ≤ s.size := by
  unfold takeT
  split
  · split
    · rename_i a h
      have := ext_len s a (a + n) (by omega) h
      omega
    · exact ⟨Nat.zero_le _, Nat.zero_le _⟩
  · exact ⟨Nat.zero_le _, Nat.zero_le _⟩
theorem numO_lt (s : ByteArray) (o : Option Nat) (k : Nat) (hk : k ≤ 4) : numO s o k < 256 ^ k := (val_small _ k (takeT_le s o k).1 hk).1
theorem numO_be (s : ByteArray) (o : Option Nat) (k : Nat) (hk : k ≤ 4) : S2.fromBe (bytesOf (takeT s o k)) = (numO s o k : Int) := (val_small _ k (takeT_le s o k).1 hk).2
theorem takeO_yes {s : ByteArray} {a n : Nat} (h : a + n ≤ s.size) : takeO s (some a) n = some (a + n) ∧ takeT s (some a) n = s.extract a (a + n) ∧ numO s (some a) n = numA s a n := by
  refine ⟨?_, ?_, ?_⟩
  · unfold takeO; simp only [if_pos h]
  · unfold takeT; simp only [if_pos h]
  · unfold numO takeT; simp only [if_pos h]; rfl
theorem takeO_no {s : ByteArray} {a n : Nat} (h : ¬ a + n ≤ s.size) : takeO s (some a) n = none := by
  unfold takeO
  simp only [if_neg h]
theorem takeO_le {s : ByteArray} {o : Option Nat} {n b : Nat} (h : takeO s o n = some b) : b ≤ s.size := by
  unfold takeO at h
  split at h
  · split at h
    · simp at h; omega
    · cases h
  · cases h

/-- The end of a text. -/
def atE (s : ByteArray) (o : Option Nat) : Bool := match o with
  | some a => decide (a = s.size)
  | none => false
/-- The tracks of a cuesheet. -/
def trkB (s : ByteArray) : Nat → Nat → Bool
  | 0, a => decide (s.size = a)
  | k + 1, a => if s.size < a + 36 then false else trkB s k (a + 36 + 12 * numA s (a + 35) 1)
def cueB (s : ByteArray) : Bool := decide (396 ≤ s.size) && (decide (1 ≤ numA s 395 1 ∧ numA s 395 1 ≤ 100) && trkB s (numA s 395 1) 396)
def txtA (s : ByteArray) (a : Nat) : Option Nat := if a + 4 ≤ s.size ∧ a + 4 + numA s a 4 ≤ s.size then some (a + 4 + numA s a 4) else none
def picB (s : ByteArray) : Bool := match txtA s 4 with
  | none => false
  | some a => match txtA s a with
    | none => false
    | some b => atE s (txtA s (b + 16))
theorem takeO_none (s : ByteArray) (n : Nat) : takeO s none n = none := rfl
def trkO (s : ByteArray) : Nat → Option Nat → Option Nat
  | 0, o => o
  | k + 1, o => trkO s k (takeO s (takeO s (takeO s o 35) 1) (12 * numO s (takeO s o 35) 1))
def cueP (s : ByteArray) : Bool := decide (1 ≤ numO s (takeO s (some 0) 395) 1 ∧ numO s (takeO s (some 0) 395) 1 ≤ 100) && atE s (trkO s (numO s (takeO s (some 0) 395) 1) (takeO s (takeO s (some 0) 395) 1))
def txtO (s : ByteArray) (o : Option Nat) : Option Nat := takeO s (takeO s o 4) (numO s o 4)
def picP (s : ByteArray) : Bool := atE s (txtO s (takeO s (txtO s (txtO s (takeO s (some 0) 4))) 16))
theorem trkO_none (s : ByteArray) : ∀ k, trkO s k none = none
  | 0 => rfl
  | k + 1 => trkO_none s k
theorem trkB_past (s : ByteArray) : ∀ k a, s.size < a → trkB s k a = false
  | 0, a, h => decide_eq_false (by omega)
  | k + 1, a, h => by rw [trkB, if_pos (by omega)]
theorem trk_same (s : ByteArray) : ∀ k a, a ≤ s.size → atE s (trkO s k (some a)) = trkB s k a
  | 0, a, h => by
    show decide (a = s.size) = decide (s.size = a)
    rw [decide_eq_decide]
    omega
  | k + 1, a, h => by
    rw [trkO, trkB]
    by_cases h1 : a + 35 ≤ s.size
    · obtain ⟨e1, _, _⟩ := takeO_yes h1
      rw [e1]
      by_cases h2 : a + 35 + 1 ≤ s.size
      · obtain ⟨e2, _, e3⟩ := takeO_yes h2
        rw [e2, e3, if_neg (by omega)]
        by_cases h3 : a + 35 + 1 + 12 * numA s (a + 35) 1 ≤ s.size
        · rw [(takeO_yes h3).1, trk_same s k _ h3]
        · rw [takeO_no h3, trkO_none, trkB_past s k _ (by omega)]
          rfl
      · rw [takeO_no h2, if_pos (by omega), takeO_none, trkO_none]
        rfl
    · rw [takeO_no h1, if_pos (by omega), takeO_none, takeO_none, trkO_none]
      rfl
theorem val_empty : S2.val (bytesOf ⟨#[]⟩) = 0 := rfl
theorem numO_none (s : ByteArray) (k : Nat) : numO s none k = 0 := rfl
theorem numO_no {s : ByteArray} {a n : Nat} (h : ¬ a + n ≤ s.size) : numO s (some a) n = 0 := by
  unfold numO takeT
  simp only [if_neg h]
  rfl
theorem cue_same (s : ByteArray) : cueP s = cueB s := by
  unfold cueP cueB
  by_cases h1 : 0 + 395 ≤ s.size
  · obtain ⟨e1, _, _⟩ := takeO_yes h1
    rw [e1]
    simp only [Nat.zero_add] at *
    by_cases h2 : 395 + 1 ≤ s.size
    · obtain ⟨e2, _, e3⟩ := takeO_yes h2
      rw [e2, e3, trk_same s _ _ h2, decide_eq_true (by omega : 396 ≤ s.size), Bool.true_and]
    · rw [numO_no h2, decide_eq_false (by omega : ¬ 396 ≤ s.size), Bool.false_and]
      rfl
  · rw [takeO_no h1, numO_none, decide_eq_false (by omega : ¬ 396 ≤ s.size), Bool.false_and]
    rfl
theorem txt_same (s : ByteArray) (a : Nat) : txtO s (some a) = txtA s a := by
  unfold txtO txtA
  by_cases h1 : a + 4 ≤ s.size
  · obtain ⟨e1, _, e3⟩ := takeO_yes h1
    rw [e1, e3]
    by_cases h2 : a + 4 + numA s a 4 ≤ s.size
    · rw [(takeO_yes h2).1, if_pos ⟨h1, h2⟩]
    · rw [takeO_no h2, if_neg (fun q => h2 q.2)]
  · rw [takeO_no h1, if_neg (fun q => h1 q.1)]
    rfl
theorem txtA_past (s : ByteArray) (a : Nat) (h : s.size < a + 4) : txtA s a = none := by
  unfold txtA
  rw [if_neg (by omega)]
theorem txtO_none (s : ByteArray) : txtO s none = none := rfl
theorem pic_same (s : ByteArray) : picP s = picB s := by
  unfold picP picB
  by_cases h1 : 0 + 4 ≤ s.size
  · rw [(takeO_yes h1).1, Nat.zero_add, txt_same]
    cases e1 : txtA s 4 with
    | none => rfl
    | some a =>
      simp only []
      rw [txt_same]
      cases e2 : txtA s a with
      | none => rfl
      | some b =>
        simp only []
        by_cases h2 : b + 16 ≤ s.size
        · rw [(takeO_yes h2).1, txt_same]
        · rw [takeO_no h2, txtA_past s (b + 16) (by omega)]
          rfl
  · rw [takeO_no h1, txtA_past s 4 (by omega)]
    rfl

def formB (b : Blk) : Bool := if b.ty = 2 then decide (4 ≤ b.body.size) else if b.ty = 3 then decide (b.body.size % 18 = 0) else if b.ty = 5 then cueB b.body else if b.ty = 6 then picB b.body else true
def chkE (b : Blk) : Int := if b.ty < 0 ∨ 126 < b.ty ∨ 16777215 < b.body.size then 2 else if b.ty = 0 then infE b.body else if formB b then 0 else 2
/-- What speaks against the next block. -/
def rtE (c : Nat) (hc : Bool) (b : Blk) : Int := if ¬ (c = 0 ↔ b.ty = 0) ∨ 126 < b.ty ∨ (hc = true ∧ b.ty = 4) then 2 else if c = 1024 then 5 else chkE b
def blkN (s : ByteArray) (a : Nat) : Blk := ⟨((numA s a 1 % 128 : Nat) : Int), s.extract (a + 4) (a + 4 + numA s (a + 1) 3)⟩
def nxtN (s : ByteArray) (a : Nat) : Nat := a + 4 + numA s (a + 1) 3
abbrev hasB (s : ByteArray) (a : Nat) : Prop := a + 4 ≤ s.size ∧ nxtN s a ≤ s.size
def cmt (hc : Bool) (b : Blk) : Bool := hc || decide (b.ty = 4)
/-- The blocks of a text from a place on. -/
def prs (s : ByteArray) : Nat → Nat → List Blk → Bool → List Blk × Nat × Int
  | 0, _, _, _ => ([], 0, 5)
  | f + 1, a, L, hc => if hasB s a then (if rtE L.length hc (blkN s a) = 0 then (if 128 ≤ numA s a 1 then (L ++ [blkN s a], nxtN s a, 0) else prs s f (nxtN s a) (L ++ [blkN s a]) (cmt hc (blkN s a))) else ([], 0, rtE L.length hc (blkN s a))) else ([], 0, 2)
def prsN (s : ByteArray) : List Blk × Nat × Int := prs s 1025 0 [] false
/-- May these blocks stand? -/
def stdB : List Blk → Nat → Bool → Bool
  | [], _, _ => true
  | b :: t, c, hc => decide (rtE c hc b = 0) && stdB t (c + 1) (cmt hc b)
def mayS (l : List Blk) : Bool := stdB l 0 false && decide (0 < l.length)
def hedL (b : Blk) (last : Bool) : List Nat := (b.ty.toNat + if last then 128 else 0) :: S2.highL b.body.size 3
def pceL (b : Blk) (last : Bool) : List Nat := hedL b last ++ bytesOf b.body
def layQ (l : List Blk) : List Nat := l.flatMap fun b => pceL b false
def layL : List Blk → List Nat
  | [] => []
  | b :: t => pceL b t.isEmpty ++ layL t
theorem layL_snoc (l : List Blk) (b : Blk) : layL (l ++ [b]) = layQ l ++ pceL b true := by
  induction l with
  | nil => simp [layL, layQ]
  | cons c t ih =>
    have e : (t ++ [b]).isEmpty = false := by cases t <;> rfl
    show pceL c (t ++ [b]).isEmpty ++ layL (t ++ [b]) = _
    rw [ih, e]
    simp [layQ]
theorem layQ_snoc (l : List Blk) (b : Blk) : layQ (l ++ [b]) = layQ l ++ pceL b false := by simp [layQ]
theorem rtE_zero {c : Nat} {hc : Bool} {b : Blk} (h : rtE c hc b = 0) : (c = 0 ↔ b.ty = 0) ∧ b.ty ≤ 126 ∧ ¬ (hc = true ∧ b.ty = 4) ∧ c ≠ 1024 ∧ chkE b = 0 := by
  unfold rtE at h
  split at h
  · cases h
  · rename_i h1
    split at h
    · cases h
    · rename_i h2
      refine ⟨Classical.byContradiction fun q => h1 (.inl q), ?_, fun q => h1 (.inr (.inr q)), h2, h⟩
      have : ¬ 126 < b.ty := fun q => h1 (.inr (.inl q))
      omega
theorem rtE_of {c : Nat} {hc : Bool} {b : Blk} (h0 : c = 0 ↔ b.ty = 0) (h1 : b.ty ≤ 126) (h2 : ¬ (hc = true ∧ b.ty = 4)) (h3 : c ≠ 1024) : rtE c hc b = chkE b := by
  unfold rtE
  have hn : ¬ (¬ (c = 0 ↔ b.ty = 0) ∨ 126 < b.ty ∨ (hc = true ∧ b.ty = 4)) := by
    rintro (q | q | q)
    · exact q h0
    · omega
    · exact h2 q
  rw [if_neg hn, if_neg h3]
theorem chkE_zero {b : Blk} (h : chkE b = 0) : 0 ≤ b.ty ∧ b.ty ≤ 126 ∧ b.body.size ≤ 16777215 := by
  unfold chkE at h
  split at h
  · cases h
  · omega
theorem fltE_ne (i : Sti) : 0 ≤ fltE i ∧ fltE i ≤ 5 := by rcases fltE_cases i with h | h | h | h <;> omega
theorem chkE_range (b : Blk) : 0 ≤ chkE b ∧ chkE b ≤ 5 := by
  have h1 := fltE_ne (infS b.body)
  unfold chkE infE
  split
  · omega
  · split
    · split <;> omega
    · split <;> omega
theorem rtE_range (c : Nat) (hc : Bool) (b : Blk) : 0 ≤ rtE c hc b ∧ rtE c hc b ≤ 5 := by
  have h1 := chkE_range b
  unfold rtE
  split
  · omega
  · split <;> omega

end Go.Proofs.YtfmpiidnemhijaaDoor
