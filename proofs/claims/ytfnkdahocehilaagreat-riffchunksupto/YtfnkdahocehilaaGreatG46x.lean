/- Own text: the walk of the document's Unpack. the program answers Unpack as the document does. a file that was read is laid as it was; plain laws. the program's chunks and the document's are the same, plain. -/
import Derived.Test.YtfnkdahocehilaaGreatP5unpack4
import Derived.Test.YtfnkdahocehilaaGreatG43x
import Derived.Test.YtfnkdahocehilaaGreatG44x
import Derived.Laws.IdiomArrays
import Derived.Test.YtfnkdahocehilaaGreatQ6build
import Derived.Test.YtfnkdahocehilaaGreatG28x
import Derived.Test.YtfnkdahocehilaaGreatG31x
namespace Go.Proofs.YtfnkdahocehilaaGreat
open Go.RowKit
set_option linter.unusedSimpArgs false
set_option linter.unusedVariables false

/-- The document's Unpack. -/
theorem runpack_spec (s : ByteArray) (rate ch wd : Int) (big uns : Bool) (w : World) (hs : s.size ≤ 1000000000000000000) :
    Calls Tryz.prog 64 #[.string s, .int .i64 rate, .int .i64 ch, .int .i64 wd, .agg #[.bool big, .bool uns]] w fun e w' => Gives w (unpP s rate ch wd big uns) (unpE s rate ch wd big uns) e w' := by
  cases hh : uheadB rate ch wd
  · exact runpack_head s rate ch wd big uns w hh
  · by_cases hm : s.size % (nby wd * ch.toNat) = 0
    · by_cases h5 : 1048576 < s.size / (nby wd * ch.toNat)
      · exact runpack_five s rate ch wd big uns w hs hh hm h5
      · obtain ⟨C, rfl⟩ : ∃ C : Nat, ch = (C : Int) := ⟨ch.toNat, by have := uhead_parts hh; omega⟩
        rw [Int.toNat_natCast] at hm h5
        cases big <;> cases uns
        · exact runpack_false_false s rate wd C w hs hh hm (by omega)
        · exact runpack_true_false s rate wd C w hs hh hm (by omega)
        · exact runpack_false_true s rate wd C w hs hh hm (by omega)
        · exact runpack_true_true s rate wd C w hs hh hm (by omega)
    · exact runpack_two s rate ch wd big uns w hs hh hm

end Go.Proofs.YtfnkdahocehilaaGreat

namespace Go.Proofs.YtfnkdahocehilaaGreat
open Go.RowKit
set_option linter.unusedSimpArgs false
set_option linter.unusedVariables false

theorem numM_numI (s : ByteArray) (wd : Int) (big uns : Bool) (i : Nat) : numM s wd big uns i = numI s wd big uns i := by
  show decM wd uns (mOf s (nby wd) big i) = decN wd uns (mOf s (nby wd) big i)
  have e : (wd - 1).toNat = wd.toNat - 1 := by omega
  unfold decM decN
  rw [e]
theorem uE_unpE (s : ByteArray) (rate ch wd : Int) (big uns : Bool) : uE s rate ch wd big uns = unpE s rate ch wd big uns := by
  unfold uE unpE
  simp only [numM_numI]
  rfl
theorem uP_unpP (s : ByteArray) (rate ch wd : Int) (big uns : Bool) : uP s rate ch wd big uns = unpP s rate ch wd big uns := by
  unfold uP unpP
  rw [uE_unpE]
  by_cases h : unpE s rate ch wd big uns = 0
  · rw [if_pos h, if_pos h]
    have hh : uheadB rate ch wd = true := by
      cases q : uheadB rate ch wd with
      | true => rfl
      | false => unfold unpE at h; rw [q, if_neg (by decide)] at h; exact absurd h (by decide)
    have hm : s.size % (nby wd * ch.toNat) = 0 := by
      by_cases q : s.size % (nby wd * ch.toNat) = 0
      · exact q
      · unfold unpE at h; rw [hh, if_pos rfl, if_neg q] at h; exact absurd h (by decide)
    have hp : 1 ≤ rate ∧ rate ≤ 655350 ∧ 1 ≤ ch ∧ ch ≤ 8 ∧ 4 ≤ wd ∧ wd ≤ 32 := of_decide_eq_true hh
    have hn := (nby_range wd (by omega) (by omega)).1
    have hc : 0 < ch.toNat := by omega
    have hd : s.size / (nby wd * ch.toNat) * (nby wd * ch.toNat) = s.size := Nat.div_mul_cancel (Nat.dvd_of_mod_eq_zero hm)
    generalize s.size / (nby wd * ch.toNat) = n at *
    have e3 : s.size / nby wd = n * ch.toNat := by rw [← hd, Nat.mul_comm (nby wd), ← Nat.mul_assoc]; exact Nat.mul_div_cancel _ hn
    rw [e3]
    have e4 : uL s wd big uns ch.toNat n = upL s wd big uns ch.toNat (n * ch.toNat) := by
      refine list_ext _ _ [] (by rw [upL_length]; exact matL_length _ _ _) fun k hk => ?_
      have hk2 : k < ch.toNat := by
        have := matL_length ch.toNat n fun k i => numM s wd big uns (i * ch.toNat + k)
        show k < ch.toNat
        rw [← this]
        exact hk
      rw [upL_full s wd big uns ch.toNat n hc k hk2]
      show (matL ch.toNat n fun k i => numM s wd big uns (i * ch.toNat + k)).getD k [] = _
      rw [matL_at _ _ _ k hk2]
      apply List.map_congr_left
      intro i _
      exact numM_numI s wd big uns _
    rw [e4]
  · rw [if_neg h, if_neg h]
    rfl
theorem sameB_refl (p : Pcm) : sameB p p = true := by
  unfold sameB
  simp

section
open Go.ChangeShapes Go.WideShapes Go.ChangeAt Go.RowKit Go.Deep
variable {H : Type} {enc : TypeId × Value → H} {w : World} {base base2 : Nat} {held : Bool}
end

end Go.Proofs.YtfnkdahocehilaaGreat

namespace Go.Proofs.YtfnkdahocehilaaGreat
open Go.RowKit
set_option linter.unusedSimpArgs false
set_option linter.unusedVariables false

theorem bytes_inj {a b : ByteArray} (h : bytesOf a = bytesOf b) : a = b := by
  rw [← textOf_bytesOf a, ← textOf_bytesOf b, h]
theorem bytes_ext (s : ByteArray) (a b : Nat) : bytesOf (s.extract a b) = ((bytesOf s).take b).drop a := bytesOf_extract s a b
/-- Four bytes as a number, and back. -/
theorem le_from4 (x : ByteArray) (h : x.size = 4) : leT (leI x) 4 = x := by
  have hl : (bytesOf x).reverse.length = 4 := by rw [List.length_reverse, bytesOf_length, h]
  have hlt : ∀ b ∈ (bytesOf x).reverse, b < 256 := fun b hb => bytesOf_lt x b (List.mem_reverse.1 hb)
  have h1 := val_lt _ hlt
  rw [hl] at h1
  have e : leI x = ((val (bytesOf x).reverse : Nat) : Int) := fromBe_of _ (by omega) (by omega)
  have hf := fits_of_nat (val (bytesOf x).reverse) 4 (by decide) (by decide) h1
  have e2 := leT_nat (val (bytesOf x).reverse) 4 hf
  rw [e]
  refine e2.trans ?_
  rw [← lowL_reverse, high_val _ 4 hl hlt, List.reverse_reverse, textOf_bytesOf]
/-- How a text was read. -/
def Reads (f : Fst) : List Chk → ByteArray → Prop
  | [], s => s.size = 0
  | c :: t, s => begB f.z s = true ∧ c = begC f.z s ∧ (takeN f c).2 = 0 ∧ Reads (takeN f c).1 t (begR f.z s)
theorem read_reads : ∀ (n : Nat) (f : Fst) (l : List Chk) (s : ByteArray) (g : Fst) (l' : List Chk), s.size < n → readN n f l s = (g, l', 0) →
    ∃ L, l' = l ++ L.map bareC ∧ hasN f L = (g, true) ∧ endN g = 0 ∧ Reads f L s ∧ (l.length ≤ 1024 → l.length + L.length ≤ 1024)
  | 0, f, l, s, g, l', h, _ => absurd h (Nat.not_lt_zero _)
  | n + 1, f, l, s, g, l', h, he => by
    rw [readN] at he
    by_cases h0 : s.size = 0
    · rw [if_pos h0] at he
      simp only [Prod.mk.injEq] at he
      obtain ⟨rfl, rfl, he⟩ := he
      exact ⟨[], by simp, rfl, he, h0, fun q => q⟩
    · rw [if_neg h0] at he
      by_cases hb : begB f.z s = true
      · rw [if_pos hb] at he
        by_cases hl : 1024 ≤ l.length
        · rw [if_pos hl] at he
          simp at he
        · rw [if_neg hl] at he
          by_cases ht : (takeN f (begC f.z s)).2 = 0
          · rw [if_pos ht] at he
            have hr := begR_size f.z s hb
            obtain ⟨L, e1, e2, e3, e4, e5⟩ := read_reads n _ _ _ g l' (by omega) he
            refine ⟨begC f.z s :: L, ?_, ?_, e3, ⟨hb, rfl, ht, e4⟩, ?_⟩
            · rw [e1, List.append_assoc]
              rfl
            · rw [hasN_yes _ _ _ ht]
              exact e2
            · intro _
              have := e5 (by rw [List.length_append]; simp; omega)
              rw [List.length_append] at this
              simp at this ⊢
              omega
          · rw [if_neg ht] at he
            simp only [Prod.mk.injEq] at he
            exact absurd he.2.2 ht
      · rw [if_neg hb] at he
        simp at he
theorem beg_parts (z : Siz) (s : ByteArray) (h : begB z s = true) : 8 ≤ s.size ∧ idB (s.extract 0 4) = true ∧ ∃ n : Nat, lenZ z s = (n : Int) ∧ 8 + n ≤ s.size := by
  unfold begB at h
  obtain ⟨h1, h2⟩ := Bool.and_eq_true_iff.1 h
  obtain ⟨hid, h3⟩ := Bool.and_eq_true_iff.1 h2
  obtain ⟨h4, h5⟩ := Bool.and_eq_true_iff.1 h3
  have h1 := of_decide_eq_true h1
  have h4 := of_decide_eq_true h4
  have h5 := of_decide_eq_true h5
  exact ⟨h1, hid, (lenZ z s).toNat, by omega, by omega⟩
theorem begC_eq (z : Siz) (s : ByteArray) (n : Nat) (h : lenZ z s = (n : Int)) : begC z s = ⟨s.extract 0 4, s.extract 8 (8 + n), padC s n⟩ := by
  unfold begC
  rw [h]
  rfl
theorem begN_eq (z : Siz) (s : ByteArray) (n : Nat) (h : lenZ z s = (n : Int)) : begN z s = 8 + n + (if n % 2 = 1 ∧ 8 + n < s.size then 1 else 0) := by
  unfold begN
  rw [h]
  rfl
theorem odd_beg (z : Siz) (s : ByteArray) (n : Nat) (h : lenZ z s = (n : Int)) (hle : 8 + n ≤ s.size) : oddC (begC z s) = decide (n % 2 = 1) := by
  rw [begC_eq z s n h]
  unfold oddC
  rw [ext_size _ _ _ (by omega) hle]
  congr 1
  rw [Nat.add_sub_cancel_left]
theorem pad_beg (z : Siz) (s : ByteArray) (n : Nat) (h : lenZ z s = (n : Int)) (hle : 8 + n ≤ s.size) : hasPadB (begC z s) = decide (n % 2 = 1 ∧ 8 + n < s.size) := by
  unfold hasPadB
  rw [odd_beg z s n h hle, begC_eq z s n h]
  show (decide (n % 2 = 1) && (padC s n != -1)) = _
  unfold padC
  by_cases h1 : n % 2 = 1
  · by_cases h2 : 8 + n < s.size
    · rw [if_pos h1, if_pos h2, decide_eq_true h1, decide_eq_true ⟨h1, h2⟩, Bool.true_and, bne_iff_ne]
      omega
    · rw [if_pos h1, if_neg h2, decide_eq_true h1, decide_eq_false (fun q => h2 q.2)]
      rfl
  · rw [decide_eq_false h1, decide_eq_false (fun q => h1 q.1)]
    rfl
theorem sizeC_beg (z : Siz) (s : ByteArray) (hb : begB z s = true) : sizeC (begC z s) = begN z s := by
  obtain ⟨_, _, n, hn, hle⟩ := beg_parts z s hb
  unfold sizeC
  rw [pad_beg z s n hn hle, begN_eq z s n hn, begC_eq z s n hn]
  show 8 + (s.extract 8 (8 + n)).size + _ = _
  rw [ext_size _ _ _ (by omega) hle, Nat.add_sub_cancel_left]
  congr 1
  by_cases q : n % 2 = 1 ∧ 8 + n < s.size
  · rw [if_pos q, decide_eq_true q]
    rfl
  · rw [if_neg q, decide_eq_false q]
    rfl
theorem reads_size : ∀ (L : List Chk) (f : Fst) (s : ByteArray), Reads f L s → sizeL L = s.size
  | [], f, s, h => by
    have h : s.size = 0 := h
    rw [h]
    rfl
  | c :: t, f, s, h => by
    obtain ⟨hb, rfl, _, hr⟩ := h
    have ih := reads_size t _ _ hr
    have e : sizeL (begC f.z s :: t) = sizeC (begC f.z s) + sizeL t := by simp [sizeL]
    have hN := begN_le f.z s hb
    rw [e, ih, sizeC_beg f.z s hb]
    unfold begR
    rw [ext_size _ _ _ hN.2 (Nat.le_refl _)]
    omega
theorem reads_nil (f : Fst) (t : List Chk) (s : ByteArray) (h : Reads f t s) (h0 : s.size = 0) : t = [] := by
  cases t with
  | nil => rfl
  | cons c t =>
    have := (beg_parts f.z s h.1).1
    omega
theorem padOk_beg (z : Siz) (s : ByteArray) (hb : begB z s = true) (last : Bool) (hl : (begR z s).size = 0 → last = true) : layOk (begC z s) last = true := by
  obtain ⟨h8, hid, n, hn, hle⟩ := beg_parts z s hb
  rw [layOk_eq]
  have hi : idB (begC z s).id = true := by rw [begC_eq z s n hn]; exact hid
  rw [hi, Bool.true_and]
  have ho := odd_beg z s n hn hle
  by_cases h1 : n % 2 = 1
  · rw [decide_eq_true h1] at ho
    by_cases h2 : 8 + n < s.size
    · have hp : (begC z s).pad = ((bytesOf s).getD (8 + n) 0 : Int) := by
        rw [begC_eq z s n hn]
        show padC s n = _
        unfold padC
        rw [if_pos h1, if_pos h2]
      have hlt : (bytesOf s).getD (8 + n) 0 < 256 := by
        rw [byte_getD s _ h2]
        exact (s[8 + n]'h2).toNat_lt
      rw [padOk_some _ last ho (by rw [hp]; omega), hp, decide_eq_true (by omega), decide_eq_true (by omega)]
      rfl
    · have hp : (begC z s).pad = -1 := by
        rw [begC_eq z s n hn]
        show padC s n = _
        unfold padC
        rw [if_pos h1, if_neg h2]
      rw [padOk_none _ last ho hp]
      apply hl
      unfold begR
      rw [begN_eq z s n hn, if_neg (fun q => h2 q.2), ByteArray.size_extract]
      omega
  · rw [decide_eq_false h1] at ho
    have hp : (begC z s).pad = 0 := by
      rw [begC_eq z s n hn]
      show padC s n = _
      unfold padC
      rw [if_neg h1]
    rw [padOk_even _ last ho, hp]
    rfl
theorem reads_lay : ∀ (L : List Chk) (f : Fst) (s : ByteArray), Reads f L s → layAll L = true
  | [], f, s, h => rfl
  | [c], f, s, h => by
    obtain ⟨hb, rfl, _, _⟩ := h
    exact padOk_beg f.z s hb true (fun _ => rfl)
  | c :: d :: t, f, s, h => by
    obtain ⟨hb, rfl, ht, hr⟩ := h
    show (layOk _ false && layAll (d :: t)) = true
    rw [reads_lay (d :: t) _ _ hr, Bool.and_true]
    refine padOk_beg f.z s hb false (fun h0 => ?_)
    cases reads_nil _ _ _ hr h0
/-- far is turned by ds64 alone, and only at the beginning. -/
theorem takeN_z (f : Fst) (c : Chk) : (takeN f c).1.z = f.z ∨ (f.seen = 0 ∧ c.id = idSizes ∧ (takeN f c).1.z.far = idData ∧ (takeN f c).1.z.big = f.z.big) := by
  unfold takeN
  split
  · exact Or.inl rfl
  · rename_i h1
    split
    · rename_i h2
      obtain ⟨hl, hi⟩ := Bool.and_eq_true_iff.1 h2
      have hz : (c.id.toList == idSizes.toList) = true := by
        rw [hl, hi] at h1
        cases q : c.id.toList == idSizes.toList
        · rw [q] at h1
          exact absurd rfl h1
        · rfl
      unfold takeSizesN
      split
      · exact Or.inl rfl
      · split
        · exact Or.inl rfl
        · split
          · exact Or.inl rfl
          · refine Or.inr ⟨?_, eq_of_list _ _ hz, rfl, rfl⟩
            have := eq_of_beq hi
            omega
    · split
      · unfold takeFmtN
        split <;> exact Or.inl rfl
      · split
        · unfold takeDataN
          split <;> exact Or.inl rfl
        · exact Or.inl rfl
theorem hasN_z : ∀ (L : List Chk) (f : Fst), 1 ≤ f.seen → (hasN f L).1.z = f.z
  | [], f, _ => rfl
  | c :: t, f, h => by
    have h1 : (takeN f c).1.z = f.z := by
      rcases takeN_z f c with q | q
      · exact q
      · omega
    rw [hasN]
    split
    · rw [hasN_z t _ (by rw [takeN_seen]; omega), h1]
    · exact h1
theorem sizes_ne_data : (idSizes.toList == idData.toList) = false := by rw [sizes_list, idData_list]; decide
theorem none_ne (x : ByteArray) (h : x.size = 4) : (x.toList == (⟨#[]⟩ : ByteArray).toList) = false := by
  cases q : x.toList == (⟨#[]⟩ : ByteArray).toList
  · rfl
  · have := eq_of_list _ _ q
    rw [this] at h
    cases h
theorem fromN_false (x : ByteArray) : fromN x false = leI x := rfl
/-- What stands in a chunk's head is what is told, by whatever way of telling the file has at its end. -/
theorem told_beg (z zf : Siz) (s : ByteArray) (hb : begB z s = true) (hz : z.big = false) (hzf : zf.big = false) (h : zf = z ∨ (z.far = ⟨#[]⟩ ∧ (begC z s).id = idSizes ∧ zf.far = idData)) : toldT zf (begC z s) = s.extract 4 8 := by
  obtain ⟨h8, hid, n, hn, hle⟩ := beg_parts z s hb
  have hid4 := idB_size _ hid
  have hx : (s.extract 4 8).size = 4 := ext_size _ _ _ (by omega) h8
  have hbs : (begC z s).body.size = n := by
    rw [begC_eq z s n hn]
    show (s.extract 8 (8 + n)).size = n
    rw [ext_size _ _ _ (by omega) hle, Nat.add_sub_cancel_left]
  have hci : (begC z s).id = s.extract 0 4 := by rw [begC_eq z s n hn]
  have hl : lenM z (s.extract 0 4) (s.extract 4 8) = (n : Int) := hn
  have key : toldN zf (begC z s) = leI (s.extract 4 8) := by
    unfold toldN
    unfold lenM at hl
    rw [hz, fromN_false] at hl
    generalize leI (s.extract 4 8) = m at *
    rcases h with rfl | ⟨h1, h2, h3⟩
    · rw [hci]
      cases q : (s.extract 0 4).toList == zf.far.toList
      · rw [q] at hl
        simp only [Bool.false_eq_true, if_false] at hl ⊢
        rw [hbs, hl]
      · rw [q] at hl
        simp only [if_true] at hl ⊢
        cases q2 : m != 4294967295
        · have : m = 4294967295 := by simpa using q2
          exact this.symm
        · rw [q2] at hl
          simp only [if_true] at hl
          omega
    · rw [h2, h3, sizes_ne_data]
      rw [h1, none_ne _ hid4] at hl
      simp only [Bool.false_eq_true, if_false] at hl ⊢
      rw [hbs, hl]
  unfold toldT
  rw [key, hzf, toT_false, le_from4 _ hx]
theorem take_add {α : Type} (l : List α) (a b : Nat) : l.take (a + b) = l.take a ++ (l.drop a).take b := List.take_add
theorem chunk_beg (z zf : Siz) (s : ByteArray) (hb : begB z s = true) (ht : toldT zf (begC z s) = s.extract 4 8) : chunkL zf (begC z s) = (bytesOf s).take (begN z s) := by
  obtain ⟨h8, hid, n, hn, hle⟩ := beg_parts z s hb
  unfold chunkL
  rw [ht, pad_beg z s n hn hle, begN_eq z s n hn, begC_eq z s n hn]
  show bytesOf (s.extract 0 4) ++ bytesOf (s.extract 4 8) ++ bytesOf (s.extract 8 (8 + n)) ++ _ = _
  simp only [bytes_ext]
  have e1 : ((bytesOf s).take 4).drop 0 = (bytesOf s).take 4 := rfl
  have e2 : ((bytesOf s).take 8).drop 4 = ((bytesOf s).drop 4).take 4 := by rw [List.drop_take]
  have e3 : ((bytesOf s).take (8 + n)).drop 8 = ((bytesOf s).drop 8).take n := by rw [List.drop_take, Nat.add_sub_cancel_left]
  rw [e1, e2, e3]
  have e4 : (bytesOf s).take 4 ++ ((bytesOf s).drop 4).take 4 = (bytesOf s).take 8 := (take_add _ 4 4).symm
  rw [e4, ← take_add]
  by_cases q : n % 2 = 1 ∧ 8 + n < s.size
  · rw [decide_eq_true q, if_pos q]
    have hp : padC s n = ((bytesOf s).getD (8 + n) 0 : Int) := by
      unfold padC
      rw [if_pos q.1, if_pos q.2]
    show _ ++ [(padC s n).toNat] = _
    rw [hp, take_add _ (8 + n) 1]
    congr 1
    have hlt : 8 + n < (bytesOf s).length := by rw [bytesOf_length]; exact q.2
    rw [List.getD_eq_getElem?_getD, List.getElem?_eq_getElem hlt, List.drop_eq_getElem_cons hlt]
    rfl
  · rw [decide_eq_false q, if_neg q]
    simp
/-- The chunks that were read, laid, are the text. -/
theorem reads_text : ∀ (L : List Chk) (f : Fst) (s : ByteArray) (zf : Siz), f.z.big = false → zf.big = false → (hasN f L).1.z = zf → (f.seen = 0 → f.z.far = ⟨#[]⟩) → 0 ≤ f.seen → Reads f L s → layZ zf L = bytesOf s
  | [], f, s, zf, _, _, _, _, _, h => by
    have h : s.size = 0 := h
    have : (bytesOf s).length = 0 := by rw [bytesOf_length]; exact h
    rw [List.length_eq_zero_iff.1 this]
    rfl
  | c :: t, f, s, zf, hb0, hzf, hz, hfar, hs0, h => by
    obtain ⟨hb, rfl, ht, hr⟩ := h
    have hz2 : (hasN (takeN f (begC f.z s)).1 t).1.z = zf := by rw [← hasN_yes _ _ _ ht]; exact hz
    have hz3 : (takeN f (begC f.z s)).1.z = zf := by rw [← hz2]; exact (hasN_z t _ (by rw [takeN_seen]; omega)).symm
    have hb1 : (takeN f (begC f.z s)).1.z.big = false := by rw [hz3]; exact hzf
    have ih := reads_text t _ _ zf hb1 hzf hz2 (fun q => by rw [takeN_seen] at q; omega) (by rw [takeN_seen]; omega) hr
    have htl : toldT zf (begC f.z s) = s.extract 4 8 := by
      refine told_beg f.z zf s hb hb0 hzf ?_
      rcases takeN_z f (begC f.z s) with q | ⟨q1, q2, q3, _⟩
      · exact Or.inl (hz3.symm.trans q)
      · exact Or.inr ⟨hfar q1, q2, by rw [← hz3]; exact q3⟩
    show chunkL zf (begC f.z s) ++ layZ zf t = _
    rw [ih, chunk_beg f.z zf s hb htl]
    unfold begR
    have e : (bytesOf s).take s.size = bytesOf s := List.take_of_length_le (by rw [bytesOf_length]; exact Nat.le_refl _)
    rw [bytes_ext, e, List.take_append_drop]

end Go.Proofs.YtfnkdahocehilaaGreat

namespace Go.Proofs.YtfnkdahocehilaaGreat
open Go.RowKit
set_option linter.unusedSimpArgs false
set_option linter.unusedVariables false

/-- Chunks that stand alone: no length is told elsewhere. -/
abbrev zB (big : Bool) : Siz := ⟨big, ⟨#[]⟩, 0⟩
theorem lenZ_one (big : Bool) (s : ByteArray) (hid : idB (s.extract 0 4) = true) : lenZ (zB big) s = lenC s big (-1) := by
  have h := none_ne _ (idB_size _ hid)
  unfold lenZ lenM lenC
  rw [if_neg (by rw [h]; decide), if_neg (by decide)]
theorem begB_one (big : Bool) (s : ByteArray) : begB (zB big) s = oneB s big (-1) := by
  unfold begB oneB
  by_cases h8 : 8 ≤ s.size
  · cases hid : idB (s.extract 0 4)
    · simp
    · rw [lenZ_one big s hid, decide_eq_true (lenC_nonneg s big (-1) h8)]
      simp
  · simp [h8]
theorem begC_one (big : Bool) (s : ByteArray) (hid : idB (s.extract 0 4) = true) : begC (zB big) s = oneC s big (-1) := by
  unfold begC oneC
  rw [lenZ_one big s hid]
theorem begN_one (big : Bool) (s : ByteArray) (hid : idB (s.extract 0 4) = true) : begN (zB big) s = oneN s big (-1) := by
  unfold begN oneN
  rw [lenZ_one big s hid]
theorem ext_ext (s : ByteArray) (a k : Nat) : (s.extract a s.size).extract k (s.extract a s.size).size = s.extract (a + k) s.size := by
  rw [ByteArray.extract_extract, ByteArray.size_extract]
  congr 1
  omega
/-- The program's chunks are the document's. -/
theorem chunk_link (s : ByteArray) (big : Bool) : ∀ (n m at' : Nat) (acc : List Chk), s.size - at' < n → s.size - at' < m → acc.length ≤ 1024 → chunkN n (zB big) acc (s.extract at' s.size) = chunksR s big m at' acc
  | 0, m, at', acc, h, _, _ => absurd h (Nat.not_lt_zero _)
  | n + 1, 0, at', acc, _, h, _ => absurd h (Nat.not_lt_zero _)
  | n + 1, m + 1, at', acc, h1, h2, h3 => by
    have hsz : (s.extract at' s.size).size = s.size - at' := by rw [ByteArray.size_extract]; omega
    by_cases h : at' < s.size
    · have hb := begB_one big (s.extract at' s.size)
      cases hq : oneB (s.extract at' s.size) big (-1)
      · rw [hq] at hb
        rw [chunkN_bad _ _ _ _ (by omega) hb, chunksR_bad _ _ _ _ _ h hq]
      · rw [hq] at hb
        by_cases hl : acc.length = 1024
        · rw [chunkN_many _ _ _ _ (by omega) hb (by omega), chunksR_many _ _ _ _ _ h hq hl]
        · have hid := (beg_parts _ _ hb).2.1
          have hn := oneN_le _ _ _ hq
          rw [chunkN_step _ _ _ _ (by omega) hb (by omega), chunksR_step _ _ _ _ _ h hq hl, begC_one _ _ hid]
          have hr : begR (zB big) (s.extract at' s.size) = s.extract (at' + oneN (s.extract at' s.size) big (-1)) s.size := by
            unfold begR
            rw [begN_one _ _ hid, ext_ext]
          rw [hr]
          exact chunk_link s big n m _ _ (by omega) (by omega) (by rw [List.length_append]; simp; omega)
    · rw [chunkN_end _ _ _ _ (by omega), chunksR_end _ _ _ _ _ h]
theorem chunk_all (s : ByteArray) (big : Bool) : chunkN (s.size + 1) (zB big) [] s = chunksN s big := by
  have h := chunk_link s big (s.size + 1) (s.size + 1) 0 [] (by omega) (by omega) (by simp)
  rw [ByteArray.extract_zero_size] at h
  exact h
theorem stand_lay (l : List Chk) (h : standB l = true) : layE l = 0 := by
  obtain ⟨h1, h2⟩ := Bool.and_eq_true_iff.1 h
  unfold layE
  rw [if_pos ⟨of_decide_eq_true h1, h2⟩]
theorem stand_not (l : List Chk) (big : Bool) (h : standB l = false) : layE l = 60 ∧ layT l big = ⟨#[]⟩ := by
  have hn : ¬ (l.length ≤ 1024 ∧ layAll l = true) := fun q => by
    unfold standB at h
    rw [decide_eq_true q.1, q.2] at h
    cases h
  unfold layE layT
  rw [if_neg hn, if_neg hn]
  exact ⟨rfl, rfl⟩
theorem one_link (c : Chk) (big last : Bool) (h : layOk c last = true) : layOne c big = chunkL (zB big) c := by
  rw [layOk_eq] at h
  obtain ⟨hid, hp⟩ := Bool.and_eq_true_iff.1 h
  have hn := none_ne _ (idB_size _ hid)
  have ht : toldT (zB big) c = toT (c.body.size : Int) big := by
    show toT (toldN (zB big) c) big = _
    have : toldN (zB big) c = (c.body.size : Int) := by
      unfold toldN
      rw [if_neg (by rw [hn]; decide)]
    rw [this]
  unfold layOne chunkL headC
  rw [ht, bytesOf_append, bytesOf_append]
  congr 1
  unfold tailC hasPadB
  cases ho : oddC c
  · simp
  · by_cases hm : c.pad = -1
    · rw [hm]
      simp
    · rw [padOk_some _ _ ho hm] at hp
      have := of_decide_eq_true (Bool.and_eq_true_iff.1 hp).1
      simp [this, hm]
theorem lay_link : ∀ (l : List Chk) (big : Bool), layAll l = true → layL l big = layZ (zB big) l
  | [], big, _ => rfl
  | [c], big, h => by
    have h : layOk c true = true := h
    unfold layL layZ
    simp only [List.flatMap_cons, List.flatMap_nil]
    rw [one_link c big true h]
  | c :: d :: t, big, h => by
    have h : (layOk c false && layAll (d :: t)) = true := h
    obtain ⟨h1, h2⟩ := Bool.and_eq_true_iff.1 h
    have ih := lay_link (d :: t) big h2
    have e1 : layL (c :: d :: t) big = layOne c big ++ layL (d :: t) big := by unfold layL; rw [List.flatMap_cons]
    have e2 : layZ (zB big) (c :: d :: t) = chunkL (zB big) c ++ layZ (zB big) (d :: t) := by unfold layZ; rw [List.flatMap_cons]
    rw [e1, e2, ih, one_link c big false h1]
theorem lay_text (l : List Chk) (big : Bool) (h : standB l = true) : textOf (bytesOf ⟨#[]⟩ ++ layZ (zB big) l) = layT l big := by
  obtain ⟨h1, h2⟩ := Bool.and_eq_true_iff.1 h
  unfold layT
  rw [if_pos ⟨of_decide_eq_true h1, h2⟩, lay_link l big h2]
  rfl

end Go.Proofs.YtfnkdahocehilaaGreat
