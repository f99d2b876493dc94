/- Own text. -/
import Derived.Test.YtfpfabmbipmipaaGreatDoorD6
import Derived.Deep.CutRange
import Derived.Deep.RegionWith
import Derived.Deep.LoopGhost
set_option linter.unusedSimpArgs false
set_option linter.unusedVariables false
set_option maxRecDepth 20000
set_option maxHeartbeats 12800000
namespace Go.Proofs.YtfpfabmbipmipaaGreatDoor
open Go.RowKit
theorem bitsOf_num (X : List Nat) (h : Bits01 X) : bitsOf (num X) X.length = X := by
 induction X with
 | nil => rfl
 | cons x t ih =>
  have hx : x < 2 := h x (by simp)
  have ht : Bits01 t := fun b hb => h b (by simp [hb])
  have hl := num_lt t ht;rw [List.length_cons, bitsOf, num_cons]
  have e1 : (x * 2 ^ t.length + num t) / 2 ^ t.length % 2 = x := by
   rw [Nat.mul_comm, Nat.mul_add_div (Nat.two_pow_pos _), Nat.div_eq_of_lt hl];omega
  have e2 : bitsOf (x * 2 ^ t.length + num t) t.length = bitsOf (num t) t.length := by
   rw [<- bitsOf_mod (x * 2 ^ t.length + num t) t.length t.length (Nat.le_refl _), Nat.mul_comm, Nat.mul_add_mod, bitsOf_mod _ _ _ (Nat.le_refl _)]
  rw [e1, e2, ih ht]
theorem bits_byte (C : List Nat) (h01 : Bits01 C) (m : Nat) (h : 8 * m + 8 <= C.length) : bitsOf (byteOf C m) 8 = (C.drop (8 * m)).take 8 := by
 have hl : ((C.drop (8 * m)).take 8).length = 8 := by rw [List.length_take, List.length_drop]; omega
 have e : byteOf C m = num ((C.drop (8 * m)).take 8) := by unfold byteOf; rw [hl]; simp
 have := bitsOf_num _ ((h01.drop (8 * m)).take 8)
 rw [hl] at this
 rw [e, this]
theorem sbits_append (a b : List Nat) : sbits (a ++ b) = sbits a ++ sbits b := by unfold sbits; rw [List.flatMap_append]
theorem sbits_packN (B : List Nat) (h01 : Bits01 B) (K m : Nat) (h : 8 * m <= B.length + K) : sbits (packN B m) = (B ++ List.replicate K 0).take (8 * m) := by
 induction m with
 | zero => simp [packN, sbits]
 | succ m ih =>
  have e : packN B (m + 1) = packN B m ++ [byteOf B m] := by unfold packN; rw [List.range_succ, List.map_append]; rfl
  have hC : Bits01 (B ++ List.replicate K 0) := h01.append (Bits01.zeros K);rw [e, sbits_append, ih (by omega), <- byteOf_zeros B K m]
  have e2 : sbits [byteOf (B ++ List.replicate K 0) m] = bitsOf (byteOf (B ++ List.replicate K 0) m) 8 := by simp [sbits]
  rw [e2, bits_byte _ hC m (by simp; omega), show 8 * (m + 1) = 8 * m + 8 from by omega, List.take_add]
theorem sbits_pack (B : List Nat) (h01 : Bits01 B) : ∃ Z, sbits (pack B) = B ++ Z /\ (B ++ Z).length = 8 * ((B.length + 7) / 8) := by
 have h := sbits_packN B h01 (8 * ((B.length + 7) / 8) - B.length) ((B.length + 7) / 8) (by omega)
 have hl : (B ++ List.replicate (8 * ((B.length + 7) / 8) - B.length) 0).length = 8 * ((B.length + 7) / 8) := by simp; omega
 refine ⟨List.replicate (8 * ((B.length + 7) / 8) - B.length) 0, ?_, hl⟩
 unfold pack
 rw [h]
 exact List.take_of_length_le (by omega)
theorem bytesOf_textOf (bs : List Nat) (h : ∀ b ∈ bs, b < 256) : bytesOf (textOf bs) = bs := by
 unfold bytesOf textOf
 simp only [List.map_map]
 induction bs with
 | nil => rfl
 | cons x t ih =>
  have hx : x < 256 := h x (by simp)
  rw [List.map_cons, ih (fun b hb => h b (by simp [hb]))]
  congr 1;simp;omega
theorem textOf_size (bs : List Nat) : (textOf bs).size = bs.length := by
 show (List.map _ bs).toArray.size = _
 simp
theorem pack_256 (B : List Nat) (h01 : Bits01 B) : ∀ b ∈ pack B, b < 256 := by
 intro b hb
 unfold pack packN at hb
 obtain ⟨i, _, rfl⟩ := List.mem_map.1 hb
 exact byteOf_lt B h01 i
theorem ahead_pack (B B1 X R : List Nat) (h01 : Bits01 B) (hB : B = B1 ++ X ++ R) : ∃ R', ahead (textOf (pack B)) B1.length = X ++ R' /\ B1.length + X.length + R.length <= 8 * (textOf (pack B)).size := by
 obtain ⟨Z, hz, hl⟩ := sbits_pack B h01
 have hs : (textOf (pack B)).size = (B.length + 7) / 8 := by rw [textOf_size, pack_length]
 refine ⟨R ++ Z, ?_, ?_⟩
 ·unfold ahead
  rw [bytesOf_textOf _ (pack_256 B h01), hz, hB, List.append_assoc, List.append_assoc, List.drop_append, List.drop_eq_nil_of_le (Nat.le_refl _), Nat.sub_self, List.drop_zero, List.nil_append]
 ·rw [hs]
  have : B.length = B1.length + X.length + R.length := by rw [hB]; simp; omega
  omega
theorem ahead_drop (s : ByteArray) (a k : Nat) : (ahead s a).drop k = ahead s (a + k) := by unfold ahead; rw [List.drop_drop]
def frN (b o r i : Nat) : Nat := i * (b / 2 ^ o) - r
def partN (l : List Int) (b o r i : Nat) : List Int := (l.drop (frN b o r i)).take (frN b o r (i + 1) - frN b o r i)
abbrev cutOk (b r o : Int) : Prop := 0 <= o /\ o <= 15 /\ 1 <= b /\ b <= 65535 /\ 0 <= r /\ r <= 32 /\ b % 2 ^ o.toNat = 0 /\ r <= b / 2 ^ o.toNat
abbrev mayOk (m k e : Int) : Prop := (e = -1 /\ 0 <= k /\ k <= 14 + 16 * m) ∨ (0 <= e /\ e <= 31 /\ k = 0)
abbrev allMay (m : Int) (P E : List Int) (n : Nat) : Prop := ∀ i, i < n -> mayOk m (P.getD i 0) (E.getD i 0)
structure Rc where
 m : Int
 o : Int
 P : List Int
 E : List Int
abbrev chkOk (c : Rc) (b r : Int) : Prop := (0 <= c.m /\ c.m <= 1) /\ cutOk b r c.o /\ c.P.length = 2 ^ c.o.toNat /\ c.E.length = 2 ^ c.o.toNat /\ allMay c.m c.P c.E (2 ^ c.o.toNat)
theorem pow15 (o : Nat) (h : o <= 15) : 1 <= 2 ^ o /\ 2 ^ o <= 32768 :=
 ⟨Nat.one_le_two_pow, Nat.le_trans (Nat.pow_le_pow_right (by decide) h) (by decide)⟩
structure Cut (b o r : Nat) : Prop where
 o15 : o <= 15
 b1 : 1 <= b
 b2 : b <= 65535
 r2 : r <= 32
 dv : 2 ^ o * (b / 2 ^ o) = b
 le : r <= b / 2 ^ o
theorem Cut.of {b r o : Int} (h : cutOk b r o) : ∃ b' r' o' : Nat, b = b' /\ r = r' /\ o = o' /\ Cut b' o' r' := by
 obtain ⟨h1, h2, h3, h4, h5, h6, h7, h8⟩ := h
 refine ⟨b.toNat, r.toNat, o.toNat, by omega, by omega, by omega, by omega, by omega, by omega, by omega, ?_, ?_⟩
 ·have e : b = (b.toNat : Int) := by omega
  rw [e] at h7;have : ((b.toNat % 2 ^ o.toNat : Nat) : Int) = 0 := by rw [<- h7]; push_cast; rfl
  have := Nat.div_add_mod b.toNat (2 ^ o.toNat);omega
 ·have e : b = (b.toNat : Int) := by omega
  rw [e] at h8;have : (r.toNat : Int) <= ((b.toNat / 2 ^ o.toNat : Nat) : Int) := by push_cast; omega
  omega
theorem Cut.ok {b o r : Nat} (h : Cut b o r) : cutOk b r o := by
 refine ⟨by omega, by have := h.o15; omega, by have := h.b1; omega, by have := h.b2; omega, by omega, by have := h.r2; omega, ?_, ?_⟩
 ·have e : (((b % 2 ^ o : Nat)) : Int) = 0 := by
   have := Nat.div_add_mod b (2 ^ o); have := h.dv; omega
  rw [<- e]; push_cast; simp
 ·have e : (r : Int) <= ((b / 2 ^ o : Nat) : Int) := by have := h.le; omega
  push_cast at e
  simpa using e
theorem frN_mono (b o r i : Nat) : frN b o r i <= frN b o r (i + 1) := by
 unfold frN; rw [Nat.add_mul]; omega
theorem frN_le (b o r : Nat) (i j : Nat) (h : i <= j) : frN b o r i <= frN b o r j := by
 unfold frN; have := Nat.mul_le_mul_right (b / 2 ^ o) h; omega
theorem Cut.total {b o r : Nat} (h : Cut b o r) : frN b o r (2 ^ o) = b - r := by unfold frN; rw [h.dv]
theorem Cut.fr_succ {b o r : Nat} (h : Cut b o r) (i : Nat) : frN b o r (i + 1) + r = (i + 1) * (b / 2 ^ o) := by
 unfold frN; have := h.le; have := Nat.mul_le_mul_right (b / 2 ^ o) (show 1 <= i + 1 by omega); omega
theorem Cut.rb {b o r : Nat} (h : Cut b o r) : r <= b := Nat.le_trans h.le (Nat.div_le_self _ _)
theorem frN_bound {b o r : Nat} (h : Cut b o r) (i : Nat) (hi : i <= 2 ^ o) : frN b o r i <= b - r := by rw [<- h.total]; exact frN_le b o r i _ hi
theorem partN_length (l : List Int) {b o r : Nat} (h : Cut b o r) (hl : l.length = b - r) (i : Nat) (hi : i < 2 ^ o) : (partN l b o r i).length = frN b o r (i + 1) - frN b o r i := by
 unfold partN; rw [List.length_take, List.length_drop]
 have := frN_bound h (i + 1) hi; have := frN_mono b o r i
 omega
def fitE (k e n : Int) : Prop := if e = -1 then rcwE n k = 0 else if e = 0 then n = 0 else sigE n e = 0
def fitT (k e n : Int) : Bool := if e = -1 then decide (rcwE n k = 0) else if e = 0 then decide (n = 0) else decide (sigE n e = 0)
theorem fitT_iff (k e n : Int) : fitT k e n = true ↔ fitE k e n := by
 unfold fitT fitE
 split
 ·exact decide_eq_true_iff
 ·split
  ·exact decide_eq_true_iff
  ·exact decide_eq_true_iff
theorem bool_no {b : Bool} {P : Prop} (hi : b = true ↔ P) (h : ¬ P) : b = false := by
 cases e : b with
 | false => rfl
 | true => exact absurd (hi.1 e) h
theorem fitT_yes {k e n : Int} (h : fitE k e n) : fitT k e n = true := (fitT_iff k e n).2 h
theorem fitT_no {k e n : Int} (h : ¬ fitE k e n) : fitT k e n = false := bool_no (fitT_iff k e n) h
def allT (k e : Int) (l : List Int) : Bool := l.all (fitT k e)
theorem allT_iff (k e : Int) (l : List Int) : allT k e l = true ↔ ∀ x ∈ l, fitE k e x := by
 unfold allT
 rw [List.all_eq_true]
 exact ⟨fun h x hx => (fitT_iff k e x).1 (h x hx), fun h x hx => (fitT_iff k e x).2 (h x hx)⟩
theorem allT_yes {k e : Int} {l : List Int} (h : ∀ x ∈ l, fitE k e x) : allT k e l = true := (allT_iff k e l).2 h
theorem allT_no {k e : Int} {l : List Int} (h : ¬ ∀ x ∈ l, fitE k e x) : allT k e l = false := bool_no (allT_iff k e l) h
def oneB (k e n : Int) : List Nat := if e = -1 then rcwB n k else if e = 0 then [] else sigB n e
def headB (m k e : Int) : List Nat := if e = -1 then putB k (4 + m) else putB (15 + 16 * m) (4 + m) ++ putB e 5
def numsB (k e : Int) (xs : List Int) : List Nat := xs.flatMap (oneB k e)
def partB (m k e : Int) (xs : List Int) : List Nat := headB m k e ++ numsB k e xs
def partsB (c : Rc) (b o r : Nat) (l : List Int) (n : Nat) : List Nat := (List.range n).flatMap fun i => partB c.m (c.P.getD i 0) (c.E.getD i 0) (partN l b o r i)
def encB (c : Rc) (b r : Nat) (l : List Int) : List Nat := putB c.m 2 ++ putB c.o 4 ++ partsB c b c.o.toNat r l (2 ^ c.o.toNat)
def allFit (c : Rc) (b o r : Nat) (l : List Int) (n : Nat) : Prop := ∀ i, i < n -> ∀ x ∈ partN l b o r i, fitE (c.P.getD i 0) (c.E.getD i 0) x
theorem partsB_zero (c : Rc) (b o r : Nat) (l : List Int) : partsB c b o r l 0 = [] := rfl
theorem partsB_succ (c : Rc) (b o r : Nat) (l : List Int) (n : Nat) : partsB c b o r l (n + 1) = partsB c b o r l n ++ partB c.m (c.P.getD n 0) (c.E.getD n 0) (partN l b o r n) := by
 unfold partsB; rw [List.range_succ, List.flatMap_append]; simp
theorem numsB_nil (k e : Int) : numsB k e [] = [] := rfl
theorem numsB_snoc (k e : Int) (xs : List Int) (x : Int) : numsB k e (xs ++ [x]) = numsB k e xs ++ oneB k e x := by
 unfold numsB; rw [List.flatMap_append]; simp
theorem oneB_01 (k e n : Int) : Bits01 (oneB k e n) := by
 unfold oneB; split
 ·exact rcwB_01 _ _
 ·split
  ·exact Bits01.nil
  ·exact sigB_01 _ _
theorem headB_01 (m k e : Int) : Bits01 (headB m k e) := by
 unfold headB; split
 ·exact putB_01 _ _
 ·exact (putB_01 _ _).append (putB_01 _ _)
theorem numsB_01 (k e : Int) (xs : List Int) : Bits01 (numsB k e xs) := by
 induction xs with
 | nil => exact Bits01.nil
 | cons x t ih => exact (oneB_01 k e x).append ih
theorem partB_01 (m k e : Int) (xs : List Int) : Bits01 (partB m k e xs) := (headB_01 _ _ _).append (numsB_01 _ _ _)
theorem partsB_01 (c : Rc) (b o r : Nat) (l : List Int) (n : Nat) : Bits01 (partsB c b o r l n) := by
 induction n with
 | zero => exact Bits01.nil
 | succ n ih => rw [partsB_succ]; exact ih.append (partB_01 _ _ _ _)
theorem encB_01 (c : Rc) (b r : Nat) (l : List Int) : Bits01 (encB c b r l) := ((putB_01 _ _).append (putB_01 _ _)).append (partsB_01 _ _ _ _ _ _)
theorem oneB_len (k e n : Int) : (oneB k e n).length <= 17000000 := by
 unfold oneB; split
 ·exact rcwB_len _ _
 ·split
  ·simp
  ·exact sigB_len _ _
theorem putB_short (u k : Int) (hk : k <= 64) : (putB u k).length <= 64 := by
 unfold putB; split
 ·rw [bitsOf_length]; omega
 ·simp
theorem headB_len (m k e : Int) (hm : m <= 1) : (headB m k e).length <= 128 := by
 unfold headB; split
 ·have := putB_short k (4 + m) (by omega); omega
 ·rw [List.length_append]
  have := putB_short (15 + 16 * m) (4 + m) (by omega); have := putB_short e 5 (by omega); omega
theorem numsB_len (k e : Int) (xs : List Int) : (numsB k e xs).length <= 17000000 * xs.length := by
 induction xs with
 | nil => simp [numsB]
 | cons x t ih =>
  have h1 := oneB_len k e x;have : (numsB k e (x :: t)).length = (oneB k e x).length + (numsB k e t).length := by simp [numsB]
  rw [this, List.length_cons]; omega
theorem partsB_len (c : Rc) (hm : c.m <= 1) {b o r : Nat} (h : Cut b o r) (l : List Int) (hl : l.length = b - r) (n : Nat) (hn : n <= 2 ^ o) : (partsB c b o r l n).length <= 128 * n + 17000000 * frN b o r n := by
 induction n with
 | zero => simp [partsB]
 | succ n ih =>
  rw [partsB_succ, List.length_append];unfold partB; rw [List.length_append];have h1 := headB_len c.m (c.P.getD n 0) (c.E.getD n 0) hm;have h2 := numsB_len (c.P.getD n 0) (c.E.getD n 0) (partN l b o r n);rw [partN_length l h hl n (by omega)] at h2
  have h3 := ih (by omega)
  have h4 := frN_mono b o r n;have : 17000000 * (frN b o r (n + 1) - frN b o r n) = 17000000 * frN b o r (n + 1) - 17000000 * frN b o r n := Nat.mul_sub _ _ _;have := Nat.mul_le_mul_left 17000000 h4;omega
theorem parts_room (c : Rc) (hm : c.m <= 1) {b o r : Nat} (h : Cut b o r) (l : List Int) (hl : l.length = b - r) (n : Nat) (hn : n <= 2 ^ o) (h5 : l.length <= 65535) : (partsB c b o r l n).length <= 1200000000000 := by
 have h1 := partsB_len c hm h l hl n hn
 have h2 := frN_bound h n hn
 have h3 := pow15 o h.o15; have := h.b2
 omega
structure IntsAt (w : World) (ao : OA) (l : List Int) : Prop where
 len : l.length <= 17592186044415
 num : ∀ n ∈ l, -9223372036854775808 <= n /\ n <= 9223372036854775807
 lies : 0 < l.length -> ∃ b off, ao = some ⟨b, off, none⟩ /\ ∀ j, j < l.length -> w.cell? ⟨b, off + j, none⟩ = some (.int .i64 (l.getD j 0))
theorem lt_cell {w : World} {a : Addr} {v : Value} (h : w.cell? a = some v) : a.block < w.heap.size := World.block_lt_of_cell? w a h
theorem IntsAt.keep {w w' : World} {ao : OA} {l : List Int} (h : IntsAt w ao l) (hb : ∀ k, k < w.heap.size -> w'.heap[k]? = w.heap[k]?) : IntsAt w' ao l := by
 refine ⟨h.len, h.num, fun h0 => ?_⟩
 obtain ⟨b, off, e, hc⟩ := h.lies h0
 refine ⟨b, off, e, fun j hj => ?_⟩
 have h1 := hc j hj
 have h2 := lt_cell h1
 rw [<- h1]
 exact World.cell?_of_block (w := w) (hb b h2)
theorem IntsAt.below {w w' : World} {ao : OA} {xs : List Int} (h : IntsAt w ao xs) (hb : Lo w w') : IntsAt w' ao xs := h.keep hb.block
theorem IntsAt.stays {w w' : World} {ao : OA} {xs : List Int} (h : IntsAt w ao xs) {S : Nat -> Prop} (hS : Stays S w w') (hn : ∀ b, blockOf ao = some b -> ¬ S b) : IntsAt w' ao xs := by
 refine ⟨h.len, h.num, fun h0 => ?_⟩
 obtain ⟨b, off, e, hc⟩ := h.lies h0
 refine ⟨b, off, e, fun j hj => ?_⟩
 have h1 := hc j hj
 have h2 := lt_cell h1
 rw [<- h1]
 exact World.cell?_of_block (w := w) (hS.block b h2 (hn b (by rw [e]; rfl)))
theorem IntsAt.get {w : World} {b off : Nat} {l : List Int} (h : IntsAt w (some ⟨b, off, none⟩) l) (j : Nat) (hj : j < l.length) : w.cell? ⟨b, off + j, none⟩ = some (.int .i64 (l.getD j 0)) := by
 obtain ⟨b', off', e, hc⟩ := h.lies (by omega)
 cases e
 exact hc j hj
theorem IntsAt.rng {w : World} {ao : OA} {l : List Int} (h : IntsAt w ao l) (j : Nat) : -9223372036854775808 <= l.getD j 0 /\ l.getD j 0 <= 9223372036854775807 := by
 by_cases hj : j < l.length
 ·rw [List.getD_eq_getElem?_getD, List.getElem?_eq_getElem hj]
  exact h.num _ (List.getElem_mem hj)
 ·rw [List.getD_eq_getElem?_getD, List.getElem?_eq_none (by omega)]
  decide
theorem IntsAt.addr {w : World} {ao : OA} {l : List Int} (h : IntsAt w ao l) (h0 : 0 < l.length) : ∃ b off, ao = some ⟨b, off, none⟩ := by
 obtain ⟨b, off, e, _⟩ := h.lies h0
 exact ⟨b, off, e⟩
theorem getD_part (l : List Int) (f n j : Nat) (hj : j < n) : ((l.drop f).take n).getD j 0 = l.getD (f + j) 0 := by
 rw [List.getD_eq_getElem?_getD, List.getD_eq_getElem?_getD, List.getElem?_take_of_lt hj, List.getElem?_drop]
theorem IntsAt.part {w : World} {ao : OA} {l : List Int} (h : IntsAt w ao l) (f n : Nat) (hf : f + n <= l.length) (xo : OA) (hx : ∀ b off, ao = some ⟨b, off, none⟩ -> 0 < n -> xo = some ⟨b, off + f, none⟩) : IntsAt w xo ((l.drop f).take n) := by
 have hl : ((l.drop f).take n).length = n := by rw [List.length_take, List.length_drop]; omega
 refine ⟨by rw [hl]; have := h.len; omega, fun x hx => h.num x (List.mem_of_mem_drop (List.mem_of_mem_take hx)), fun h0 => ?_⟩
 rw [hl] at h0
 obtain ⟨b, off, e, hc⟩ := h.lies (by omega)
 refine ⟨b, off + f, hx b off e h0, fun j hj => ?_⟩
 rw [hl] at hj
 rw [getD_part l f n j hj, show off + f + j = off + (f + j) from by omega]
 exact hc _ (by omega)
def intsC (l : List Int) : List Value := l.map fun n => Value.int .i64 n
theorem intsC_length (l : List Int) : (intsC l).length = l.length := by simp [intsC]
theorem intsC_one (l : List Int) : ∀ u ∈ intsC l, u.oneCell' = true := by
 intro u hu
 obtain ⟨n, _, rfl⟩ := List.mem_map.1 hu
 rfl
theorem intsC_append (l m : List Int) : intsC (l ++ m) = intsC l ++ intsC m := by simp [intsC]
abbrev riceC (c : Rc) (pa : OA) (pc : Nat) (ea : OA) (ec : Nat) : Array Value := #[.int .i64 c.m, .int .i64 c.o, .slice pa c.P.length pc, .slice ea c.E.length ec]
abbrev riceV (c : Rc) (pa : OA) (pc : Nat) (ea : OA) (ec : Nat) : Value := .agg (riceC c pa pc ea ec)
structure RcAt (w : World) (c : Rc) (pa ea : OA) : Prop where
 P : IntsAt w pa c.P
 E : IntsAt w ea c.E
 m1 : -9223372036854775808 <= c.m
 m2 : c.m <= 9223372036854775807
 o1 : -9223372036854775808 <= c.o
 o2 : c.o <= 9223372036854775807
theorem RcAt.keep {w w' : World} {c : Rc} {pa ea : OA} (h : RcAt w c pa ea) (hb : ∀ k, k < w.heap.size -> w'.heap[k]? = w.heap[k]?) : RcAt w' c pa ea := ⟨h.P.keep hb, h.E.keep hb, h.m1, h.m2, h.o1, h.o2⟩
theorem RcAt.below {w w' : World} {c : Rc} {pa ea : OA} (h : RcAt w c pa ea) (hb : Lo w w') : RcAt w' c pa ea := h.keep hb.block
theorem below_drewN (w : World) (n : Nat) : Lo w (w.drewN n) := ⟨rfl, rfl, rfl, Nat.le_refl _, fun _ _ => rfl⟩
theorem Below.drewN {B : Nat} {a w : World} (h : Below B a w) (n : Nat) : Below B a (w.drewN n) := ⟨h.os, h.tape, h.output, h.size, h.block⟩
theorem heap_two (w : World) (A B : Obj) : ((w.alloc A).alloc B).heap[w.heap.size]? = some A := by
 have hb : Below (w.heap.size + 1) (w.alloc A) ((w.alloc A).alloc B) := (Below.refl _ _).alloc (by simp) _
 rw [hb.block _ (by omega)]; exact heap_alloc_new _ _
theorem results_two {fn : Func} {p t : Tmp} {ty : TypeId} (h : fn.results = #[.cell p ty, .tmp t]) (tmps : Array Value) (P : Program) (w : World) :
  (results fn tmps).run P w = ((asAddr (tmps.getD p undef)).run P w).andThen fun a w₁ => ((loadVar ty a).run P w₁).andThen fun x w₂ => .ok (.tuple #[x, tmps.getD t undef]) w₂ := by
 simp only [results, h]
 simp [Sem.run_bind, Result.andThen]
structure RB (w : World) (c : Rc) (pa : OA) (pc : Nat) (ea : OA) (ec : Nat) (wx : World) : Prop where
 box : wx.heap[w.heap.size]? = some (.cells (riceC c pa pc ea ec) 65 (0, 0))
 below : Lo w wx
section
variable {w wx w' : World} {c : Rc} {pa : OA} {pc : Nat} {ea : OA} {ec : Nat}
theorem lt_of_block {w : World} {k : Nat} {o : Obj} (h : w.heap[k]? = some o) : k < w.heap.size := by
 rcases Nat.lt_or_ge k w.heap.size with h1 | h1
 ·exact h1
 ·rw [Array.getElem?_eq_none h1] at h; cases h
theorem RB.new (w : World) (c : Rc) (pa : OA) (pc : Nat) (ea : OA) (ec : Nat) : RB w c pa pc ea ec (w.alloc (.cells (riceC c pa pc ea ec) 65)) :=
 ⟨heap_alloc_new _ _, aQ⟩
theorem RB.next (h : RB w c pa pc ea ec wx) (hb : Lo wx w') : RB w c pa pc ea ec w' :=
 ⟨by rw [hb.block _ (lt_of_block h.box)]; exact h.box, h.below.trans (hb.mono h.below.size)⟩
theorem RB.drewN (h : RB w c pa pc ea ec wx) (n : Nat) : RB w c pa pc ea ec (wx.drewN n) :=
 ⟨by simpa using h.box, Below.drewN h.below n⟩
theorem RB.c0 (h : RB w c pa pc ea ec wx) : wx.cell? ⟨w.heap.size, 0, none⟩ = some (.int .i64 c.m) := by rw [cell_of_row _ _ _ _ _ _ h.box]; rfl
theorem RB.c1 (h : RB w c pa pc ea ec wx) : wx.cell? ⟨w.heap.size, 1, none⟩ = some (.int .i64 c.o) := by rw [cell_of_row _ _ _ _ _ _ h.box]; rfl
theorem RB.c2 (h : RB w c pa pc ea ec wx) : wx.cell? ⟨w.heap.size, 2, none⟩ = some (.slice pa c.P.length pc) := by rw [cell_of_row _ _ _ _ _ _ h.box]; rfl
theorem RB.c3 (h : RB w c pa pc ea ec wx) : wx.cell? ⟨w.heap.size, 3, none⟩ = some (.slice ea c.E.length ec) := by rw [cell_of_row _ _ _ _ _ _ h.box]; rfl
end
theorem pw_spec (m : Int) (h0 : 0 <= m) (h1 : m <= 1) (w : World) :
  Calls Tryz.prog 213 #[.int .i64 m] w fun e w' => e = .returned (.int .i64 (4 + m)) /\ w' = w := by
 rcases (show m = 0 ∨ m = 1 by omega) with rfl | rfl
 ·go_enter Tryz.func213, Tryz.ntmps213
  go_wp2
  go_ret;exact ⟨rfl, rfl⟩
 ·go_enter Tryz.func213, Tryz.ntmps213
  go_wp2
  go_ret;exact ⟨rfl, rfl⟩
theorem mark_spec (m : Int) (h0 : 0 <= m) (h1 : m <= 1) (w : World) :
  Calls Tryz.prog 214 #[.int .i64 m] w fun e w' => e = .returned (.int .i64 (15 + 16 * m)) /\ w' = w := by
 have KP := fun wx => pw_spec m h0 h1 wx
 rcases (show m = 0 ∨ m = 1 by omega) with rfl | rfl
 rotate_left
 rotate_left
 all_goals
  go_enter Tryz.func214, Tryz.ntmps214
  go_wp2_with (go_at_call 213; refine (KP _).mono ?_; rintro e w' ⟨rfl, rfl⟩)
  go_ret;exact ⟨rfl, rfl⟩
def areB (b r : Int) : Bool := decide (1 <= b /\ b <= 65535 /\ 0 <= r /\ r <= 32)
theorem areOf_spec (b r : Int) (w : World) : Calls Tryz.prog 209 #[.int .i64 b, .int .i64 r] w fun e w' => e = .returned (.bool (areB b r)) /\ w' = w := by
 by_cases g0 : b < 1
 focus
  have hd : areB b r = false := decide_eq_false (by omega)
 rotate_left
 focus
  skip
  by_cases g1 : 65535 < b
  focus
   have hd : areB b r = false := decide_eq_false (by omega)
  rotate_left
  focus
   skip
   by_cases g2 : r < 0
   focus
    have hd : areB b r = false := decide_eq_false (by omega)
   rotate_left
   focus
    skip
    by_cases g3 : 32 < r
    focus
     have hd : areB b r = false := decide_eq_false (by omega)
     have hb : decide (r <= 32) = false := decide_eq_false (by omega)
    rotate_left
    focus
     skip
     have hd : areB b r = true := decide_eq_true (by omega)
     have hb : decide (r <= 32) = true := decide_eq_true (by omega)
    rotate_left
   rotate_left 2
  rotate_left 3
 rotate_left 4
 all_goals
  rw [hd];go_enter Tryz.func209, Tryz.ntmps209
  go_wp2
  go_ret;exact ⟨rfl, rfl⟩
theorem mayBe_spec (m k e : Int) (h0 : 0 <= m) (h1 : m <= 1) (w : World) : Calls Tryz.prog 208 #[.int .i64 m, .int .i64 k, .int .i64 e] w fun en w' => en = .returned (.bool (decide (mayOk m k e))) /\ w' = w := by
 have KM := fun wx => mark_spec m h0 h1 wx
 by_cases he : e = -1
 focus
  subst he;by_cases g0 : k < 0
  focus
   have hd : decide (mayOk m k (-1)) = false := decide_eq_false (by unfold mayOk; omega)
  rotate_left
  ·skip
   by_cases g1 : ¬ k < 15 + 16 * m
   ·have hd : decide (mayOk m k (-1)) = false := decide_eq_false (by unfold mayOk; omega)
    have hb : decide (k < 15 + 16 * m) = false := decide_eq_false (by omega)
    rw [hd];go_enter Tryz.func208, Tryz.ntmps208
    go_wp2_with (go_at_call 214; refine (KM _).mono ?_; rintro e w' ⟨rfl, rfl⟩)
    go_ret;exact ⟨rfl, rfl⟩
   ·skip
    have hd : decide (mayOk m k (-1)) = true := decide_eq_true (by unfold mayOk; omega)
    have hb : decide (k < 15 + 16 * m) = true := decide_eq_true (by omega)
    rw [hd];go_enter Tryz.func208, Tryz.ntmps208
    go_wp2_with (go_at_call 214; refine (KM _).mono ?_; rintro e w' ⟨rfl, rfl⟩)
    go_ret;exact ⟨rfl, rfl⟩
 rotate_left
 focus
  have hbe : (e == -1) = false := by rw [beq_eq_false_iff_ne]; exact he
  by_cases g0 : ¬ k = 0
  focus
   have hd : decide (mayOk m k e) = false := decide_eq_false (by unfold mayOk; omega)
   have hb : (k == 0) = false := by rw [beq_eq_false_iff_ne]; exact g0
  rotate_left
  focus
   skip
   by_cases g1 : e < 0
   focus
    have hd : decide (mayOk m k e) = false := decide_eq_false (by unfold mayOk; omega)
    have hk : k = 0 := by omega
    subst hk
   rotate_left
   focus
    skip
    by_cases g2 : 31 < e
    focus
     have hd : decide (mayOk m k e) = false := decide_eq_false (by unfold mayOk; omega)
     have hb : decide (e <= 31) = false := decide_eq_false (by omega)
     have hk : k = 0 := by omega
     subst hk
    rotate_left
    focus
     skip
     have hk : k = 0 := by omega
     subst hk;have hd : decide (mayOk m 0 e) = true := decide_eq_true (by unfold mayOk; omega)
     have hb : decide (e <= 31) = true := decide_eq_true (by omega)
    rotate_left
   rotate_left 2
  rotate_left 3
 rotate_left 4
 all_goals
  rw [hd];go_enter Tryz.func208, Tryz.ntmps208
  go_wp2
  go_ret;exact ⟨rfl, rfl⟩
theorem info_cut : (Tryz.prog.info? 219).map (·.size) = some 3 := by kernel_rfl
abbrev cutV (p s f : Int) : Value := .agg #[.int .i64 p, .int .i64 s, .int .i64 f]
theorem pow15i (o : Nat) (h : o <= 15) : (1 : Int) <= 2 ^ o /\ (2 : Int) ^ o <= 32768 := by
 have h1 := pow15 o h
 have e : (2 : Int) ^ o = ((2 ^ o : Nat) : Int) := by simp
 rw [e]; omega
theorem cutOf_yes (b o r : Nat) (h : Cut b o r) (w : World) :
  Calls Tryz.prog 191 #[.int .i64 (b : Int), .int .i64 (r : Int), .int .i64 (o : Int)] w fun e w' => e = .returned (.tuple #[cutV ((2 ^ o : Nat) : Int) ((b / 2 ^ o : Nat) : Int) (r : Int), .bool true]) /\ Lo w w' := by
 have h1 := h.o15
 have h2 := h.b1
 have h3 := h.b2
 have h4 := h.r2
 have KA : Hid (∀ wx, G0 209 #[.int .i64 (b : Int), .int .i64 (r : Int)] wx (.bool true)) := fun wx => (areOf_spec b r wx).mono fun e w' hh => ⟨by rw [hh.1, show areB b r = true from decide_eq_true (by omega)], hh.2⟩
 obtain ⟨hp1, hp2⟩ := pow15i o h1
 have hq : (b : Int).tdiv (2 ^ o) = ((b / 2 ^ o : Nat) : Int) := by rw [Int.tdiv_eq_ediv_of_nonneg (by omega)]; push_cast; rfl
 have hm : (b : Int).tmod (2 ^ o) = 0 := by
  rw [Int.tmod_eq_emod_of_nonneg (by omega)]
  have := Nat.div_add_mod b (2 ^ o); have := h.dv;have e : ((b % 2 ^ o : Nat) : Int) = 0 := by omega
  rw [<- e]; push_cast; rfl
 have hge : decide ((r : Int) <= ((b / 2 ^ o : Nat) : Int)) = true := decide_eq_true (by have := h.le; omega)
 have he : ((2 ^ o : Nat) : Int) = 2 ^ o := by simp
 rw [he]
 have hdl : ((b / 2 ^ o : Nat) : Int) <= 65535 := by have := Nat.div_le_self b (2 ^ o); omega
 have hd0 : (0 : Int) <= ((b / 2 ^ o : Nat) : Int) := Int.natCast_nonneg _
 generalize ((b / 2 ^ o : Nat) : Int) = d at *
 generalize hH : (2 : Int) ^ o = p at *
 clear h he
 go_enter Tryz.func191, Tryz.ntmps191
 go_wp2_with (go_at_call 209; refine (KA.out _).mono ?_; rintro e w' ⟨rfl, rfl⟩)
 go_region
 all_goals go_wp2
 generalize hwf : World.drew _ = wf
 have hrow : wf.heap[w.heap.size]? = some (.cells #[.int .i64 p, .int .i64 d, .int .i64 (r : Int)] 219 (0, 0)) := by
  rw [<- hwf]; exact heap_two _ _ _
 have hbel : Lo w wf := by
  rw [<- hwf]; exact (aQ.alloc (by simp) _).drew
 refine bodyPost_ret (v := .tuple #[.agg #[.int .i64 p, .int .i64 d, .int .i64 (r : Int)], .bool true]) ?_ rfl ⟨rfl, hbel⟩
 rw [results_two rfl]
 have hld := run_loadVar_row (P := Tryz.prog) (wf) (w.heap.size) 219 219 #[.int .i64 p, .int .i64 d, .int .i64 (r : Int)] (0, 0) _ hrow Tryz.underlying219 rfl info_cut
 simp [asAddr, Result.andThen, hld]
theorem cut_head {b r o : Int} (h : cutOk b r o) : 0 <= o /\ o <= 15 /\ 1 <= b /\ b <= 65535 /\ 0 <= r /\ r <= 32 := ⟨h.1, h.2.1, h.2.2.1, h.2.2.2.1, h.2.2.2.2.1, h.2.2.2.2.2.1⟩
theorem cutOf_no (b o r : Int) (h : ¬ cutOk b r o) (w : World) :
  Calls Tryz.prog 191 #[.int .i64 b, .int .i64 r, .int .i64 o] w fun e w' => ∃ p s f, e = .returned (.tuple #[cutV p s f, .bool false]) /\ Lo w w' := by
 have KA : Hid (∀ wx, G0 209 #[.int .i64 b, .int .i64 r] wx (.bool (areB b r))) := fun wx => areOf_spec b r wx
 have HB1 : Hid (∀ o1 o2, Lo w (w.alloc o1) /\ Lo w ((w.alloc o1).alloc o2) /\ Lo w ((w.alloc o1).alloc o2).drew) := fun o1 o2 => ⟨aQ, aQ.alloc (by simp) _, (aQ.alloc (by simp) _).drew⟩
 by_cases g0 : o < 0
 focus
  clear KA;clear h;go_enter Tryz.func191, Tryz.ntmps191
  go_wp2
 rotate_left
 focus
  skip
  by_cases g1 : 15 < o
  focus
   clear KA;clear h;go_enter Tryz.func191, Tryz.ntmps191
   go_wp2
  rotate_left
  focus
   skip
   by_cases g2 : areB b r = false
   focus
    rw [g2] at KA;clear h;go_enter Tryz.func191, Tryz.ntmps191
    go_wp2_with (go_at_call 209; refine (KA.out _).mono ?_; rintro e w' ⟨rfl, rfl⟩)
   rotate_left
   ·skip
    obtain ⟨a1, a2, a3, a4⟩ : 1 <= b /\ b <= 65535 /\ 0 <= r /\ r <= 32 := by
     cases hq : areB b r with
     | false => exact absurd hq g2
     | true => exact of_decide_eq_true hq
    have g3 : areB b r = true := decide_eq_true ⟨a1, a2, a3, a4⟩;rw [g3] at KA;clear g2 g3;obtain ⟨o, rfl⟩ : ∃ o' : Nat, o = o' := ⟨o.toNat, by omega⟩
    obtain ⟨hp1, hp2⟩ := pow15i o (by omega)
    have hbm : b.tmod (2 ^ o) = b % 2 ^ o := Int.tmod_eq_emod_of_nonneg (by omega)
    have hbd : b.tdiv (2 ^ o) = b / 2 ^ o := Int.tdiv_eq_ediv_of_nonneg (by omega)
    have hdl : b / 2 ^ o <= b := Int.ediv_le_self _ (by omega)
    have hd0 : (0 : Int) <= b / 2 ^ o := Int.ediv_nonneg (by omega) (by omega)
    have hm0 : (0 : Int) <= b % 2 ^ o := Int.emod_nonneg _ (by omega)
    have hm1 : b % 2 ^ o < 2 ^ o := Int.emod_lt_of_pos _ (by omega)
    have hno : ¬ (b % 2 ^ o = 0 /\ r <= b / 2 ^ o) := fun hh => h ⟨by omega, by omega, a1, a2, a3, a4, by simpa using hh.1, by simpa using hh.2⟩
    generalize b / 2 ^ o = d at *;generalize b % 2 ^ o = m at *;generalize hH : (2 : Int) ^ o = p at *;clear h;by_cases g4 : m = 0
    ·have hb1 : (m == 0) = true := by rw [g4]; rfl
     have hb2 : decide (r <= d) = false := decide_eq_false (fun hh => hno ⟨g4, hh⟩);clear hno;go_enter Tryz.func191, Tryz.ntmps191
     go_wp2_with (go_at_call 209; refine (KA.out _).mono ?_; rintro e w' ⟨rfl, rfl⟩)
     go_region
     all_goals go_wp2
     generalize hwf : World.drew _ = wf
     have hrow : wf.heap[w.heap.size]? = some (.cells #[.int .i64 p, .int .i64 d, .int .i64 r] 219 (0, 0)) := by
      rw [<- hwf]; exact heap_two _ _ _
     have hbel : Lo w wf := by
      rw [<- hwf]; exact (aQ.alloc (by simp) _).drew
     refine bodyPost_ret (v := .tuple #[.agg #[.int .i64 p, .int .i64 d, .int .i64 r], .bool false]) ?_ rfl (by first | exact ⟨p, d, r, rfl, hbel⟩ | exact ⟨⟨p, d, r, rfl⟩, hbel⟩)
     rw [results_two rfl];have hld := run_loadVar_row (P := Tryz.prog) (wf) (w.heap.size) 219 219 #[.int .i64 p, .int .i64 d, .int .i64 r] (0, 0) _ hrow Tryz.underlying219 rfl info_cut;simp [asAddr, Result.andThen, hld]
    ·have hb1 : (m == 0) = false := by rw [beq_eq_false_iff_ne]; exact g4
     clear hno;go_enter Tryz.func191, Tryz.ntmps191
     go_wp2_with (go_at_call 209; refine (KA.out _).mono ?_; rintro e w' ⟨rfl, rfl⟩)
     go_region
     all_goals go_wp2
     generalize hwf : World.drew _ = wf
     have hrow : wf.heap[w.heap.size]? = some (.cells #[.int .i64 p, .int .i64 d, .int .i64 r] 219 (0, 0)) := by
      rw [<- hwf]; exact heap_two _ _ _
     have hbel : Lo w wf := by
      rw [<- hwf]; exact (aQ.alloc (by simp) _).drew
     refine bodyPost_ret (v := .tuple #[.agg #[.int .i64 p, .int .i64 d, .int .i64 r], .bool false]) ?_ rfl (by first | exact ⟨p, d, r, rfl, hbel⟩ | exact ⟨⟨p, d, r, rfl⟩, hbel⟩)
     rw [results_two rfl];have hld := run_loadVar_row (P := Tryz.prog) (wf) (w.heap.size) 219 219 #[.int .i64 p, .int .i64 d, .int .i64 r] (0, 0) _ hrow Tryz.underlying219 rfl info_cut;simp [asAddr, Result.andThen, hld]
  rotate_left
 rotate_left 2
 all_goals
  generalize hwf : World.alloc _ _ = wf
  have hrow : wf.heap[w.heap.size]? = some (.cells #[.int .i64 0, .int .i64 0, .int .i64 0] 219 (0, 0)) := by
   rw [<- hwf]; exact heap_alloc_new _ _
  have hbel : Lo w wf := by
   rw [<- hwf]; exact aQ
  refine bodyPost_ret (v := .tuple #[.agg #[.int .i64 0, .int .i64 0, .int .i64 0], .bool false]) ?_ rfl (by first | exact ⟨0, 0, 0, rfl, hbel⟩ | exact ⟨⟨0, 0, 0, rfl⟩, hbel⟩)
  rw [results_two rfl];have hld := run_loadVar_row (P := Tryz.prog) (wf) (w.heap.size) 219 219 #[.int .i64 0, .int .i64 0, .int .i64 0] (0, 0) _ hrow Tryz.underlying219 rfl info_cut;simp [asAddr, Result.andThen, hld]
theorem count_spec (p s f : Nat) (h1 : p * s <= 65535) (h2 : f <= 32) (hp : p <= 32768) (hs : s <= 65535) (w : World) :
  Calls Tryz.prog 210 #[cutV p s f] w fun e w' => e = .returned (.int .i64 ((p * s : Nat) - (f : Int))) /\ Lo w w' := by
 have e1 : (p : Int) * (s : Int) = ((p * s : Nat) : Int) := by push_cast; rfl
 have e2 : ((p * s : Nat) : Int) <= 65535 := by omega
 have e3 : (0 : Int) <= ((p * s : Nat) : Int) := Int.natCast_nonneg _
 have HB1 : Hid (∀ o1, Lo w (w.alloc o1)) := fun o1 => aQ
 generalize ((p * s : Nat) : Int) = q at *
 clear h1
 go_enter Tryz.func210, Tryz.ntmps210
 go_wp2
 go_ret
 exact ⟨rfl, HB1.out _⟩
theorem undI : Tryz.prog.underlying 56 = some (.slice (Tryz.prog.elem 56)) := by kernel_rfl
theorem elemI : Tryz.prog.elem 56 = 3 := by kernel_rfl
theorem info3' : (Tryz.prog.info? 3).map (fun i => (i.zero, i.size, i.bytes)) = some (some (.int .i64 0), 1, 8) := by kernel_rfl
theorem size3 (w : World) : (Go.sizeOf 3).run Tryz.prog w = .ok 1 w := by
 have h := info3'
 cases hq : Tryz.prog.info? 3 with
 | none => rw [hq] at h; cases h
 | some i =>
  rw [hq] at h;simp only [Option.map_some, Option.some.injEq, Prod.mk.injEq] at h;simp [Go.sizeOf, typeInfo, hq, h.2.1]
theorem slice_ints3 (a : OA) (n c f t : Nat) (h1 : f <= t) (h2 : t <= c) (h0 : a = none -> c = 0) :
  ∃ xo, (∀ w, (Instr.slice 56 (.slice a n c) (some (.int .i64 (f : Int))) (some (.int .i64 (t : Int))) (some (.int .i64 (t : Int)))).run Tryz.prog w = .ok (.slice xo (t - f) (t - f)) w) /\ (xo = none -> t - f = 0) /\ (∀ b off, a = some ⟨b, off, none⟩ -> f < t -> xo = some ⟨b, off + f, none⟩) /\ (∀ b, blockOf xo = some b -> blockOf a = some b) := by
 cases a with
 | none =>
  have := h0 rfl;refine ⟨none, fun w => ?_, fun _ => (by omega), fun b off q => (by cases q), fun b hb => hb⟩
  rw [run_slice_lhm w 56 none n c undI .i64 .i64 .i64 _ _ _ (by omega) (by omega) (by omega) (by omega), elemI, size3]
  simp [Result.andThen, sliced]
 | some ad =>
  refine ⟨some (if t = f then ad else ad.add f), fun w => ?_, fun q => (by cases q), fun b off q hlt => ?_, fun b hb => ?_⟩
  ·rw [run_slice_lhm w 56 (some ad) n c undI .i64 .i64 .i64 _ _ _ (by omega) (by omega) (by omega) (by omega), elemI, size3]
   simp only [Result.andThen_ok, sliced, Int.toNat_natCast, Option.map_some, Nat.mul_one]
   split <;> rfl
  ·cases q
   rw [if_neg (by omega), Addr.add_mid]
  ·revert hb
   split
   ·exact fun h => h
   ·unfold Addr.add; split <;> exact fun h => h
theorem part_spec (b o r i : Nat) (h : Cut b o r) (hi : i < 2 ^ o) (a : OA) (n c : Nat) (hn : n = b - r) (hc : n <= c) (h0 : a = none -> c = 0) (P : Int) (w : World) :
  Calls Tryz.prog 195 #[cutV P ((b / 2 ^ o : Nat) : Int) (r : Int), .slice a n c, .int .i64 (i : Int)] w fun e w' => ∃ xo, e = .returned (.slice xo (frN b o r (i + 1) - frN b o r i) (frN b o r (i + 1) - frN b o r i)) /\ Lo w w' /\ (xo = none -> frN b o r (i + 1) - frN b o r i = 0) /\ (∀ bb off, a = some ⟨bb, off, none⟩ -> 0 < frN b o r (i + 1) - frN b o r i -> xo = some ⟨bb, off + frN b o r i, none⟩) /\ (∀ bb, blockOf xo = some bb -> blockOf a = some bb) := by
 have hm := frN_mono b o r i
 have hb := frN_bound h (i + 1) hi
 obtain ⟨xo, hsl, x0, x1, x2⟩ := slice_ints3 a n c (frN b o r i) (frN b o r (i + 1)) hm (by omega) h0
 have HX : Hid ((xo = none -> frN b o r (i + 1) - frN b o r i = 0) /\ (∀ bb off, a = some ⟨bb, off, none⟩ -> 0 < frN b o r (i + 1) - frN b o r i -> xo = some ⟨bb, off + frN b o r i, none⟩) /\ (∀ bb, blockOf xo = some bb -> blockOf a = some bb)) := ⟨x0, fun bb off e hlt => x1 bb off e (by omega), x2⟩
 clear x0 x1 x2
 have hfs := h.fr_succ i
 have hf0 : (frN b o r i : Int) = max ((frN b o r (i + 1) : Int) - ((b / 2 ^ o : Nat) : Int)) 0 := by
  have : frN b o r i = i * (b / 2 ^ o) - r := rfl;rw [Nat.add_mul] at hfs;omega
 have hi2 : i < 32768 := by have := (pow15 o h.o15).2; omega
 have hd : b / 2 ^ o <= 65535 := by have := Nat.div_le_self b (2 ^ o); have := h.b2; omega
 have hmul : ((i : Int) + 1) * ((b / 2 ^ o : Nat) : Int) = ((frN b o r (i + 1) : Nat) : Int) + (r : Int) := by
  have e : (((i + 1) * (b / 2 ^ o) : Nat) : Int) = ((frN b o r (i + 1) + r : Nat) : Int) := by rw [hfs]
  push_cast at e
  push_cast
  exact e
 have hr := h.r2
 have hb2 := h.b2
 have HB1 : Hid (∀ o1, Lo w (w.alloc o1)) := fun o1 => aQ
 generalize frN b o r (i + 1) = t at *
 generalize frN b o r i = f at *
 generalize b / 2 ^ o = d at *
 have hd' : (d : Int) <= 65535 := by omega
 have ht' : (t : Int) <= 65535 := by omega
 have HF := kQ hf0
 clear hi h hfs hm hf0
 obtain ⟨e, he⟩ : ∃ e : Int, e = (t : Int) + (r : Int) := ⟨_, rfl⟩
 rw [<- he] at hmul
 have hsub : e - (r : Int) = (t : Int) := by omega
 have he1 : 0 <= e := by omega
 have he2 : e <= 70000 := by omega
 clear he
 have HS := kQ hsl
 clear hsl
 go_enter Tryz.func195, Tryz.ntmps195
 go_upto_region 3 with fail
 have hif : (if (t : Int) - (d : Int) < 0 then 0 else (t : Int) - (d : Int)) = (f : Int) := by have := HF.out; split <;> omega
 rw [hif]
 clear hif HF hb hn hc ht' hsub hmul
 have hsl := HS.out
 go_wp2
 go_ret
 exact ⟨xo, rfl, HB1.out _, HX.out⟩
end Go.Proofs.YtfpfabmbipmipaaGreatDoor
