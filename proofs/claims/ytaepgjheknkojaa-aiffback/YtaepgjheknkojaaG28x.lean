/- Own text: chunks, plain laws (of stage 6). the program's chunks and the document's are the same, plain. -/
import Derived.Test.YtaepgjheknkojaaG25x
import Derived.Test.YtaepgjheknkojaaG26x
import Derived.Test.YtaepgjheknkojaaG11x
import Derived.Test.YtaepgjheknkojaaG27x
namespace Go.Proofs.Ytaepgjheknkojaa
open Go.RowKit
set_option linter.unusedSimpArgs false
set_option linter.unusedVariables false
theorem eq_of_list (a b : ByteArray) (h : (a.toList == b.toList) = true) : a = b := by
  have h := eq_of_beq h
  rw [ByteArray.toList_eq, ByteArray.toList_eq] at h
  apply ByteArray.ext
  exact Array.toList_inj.1 h

theorem bytes_inj {a b : ByteArray} (h : bytesOf a = bytesOf b) : a = b := by
  rw [← textOf_bytesOf a, ← textOf_bytesOf b, h]
theorem bytes_ext (s : ByteArray) (a b : Nat) : bytesOf (s.extract a b) = ((bytesOf s).take b).drop a := bytesOf_extract s a b
theorem beg_parts (z : Siz) (s : ByteArray) (h : begB z s = true) : 8 ≤ s.size ∧ idB (s.extract 0 4) = true ∧ ∃ n : Nat, lenZ z s = (n : Int) ∧ 8 + n ≤ s.size := by
  unfold begB at h
  obtain ⟨h1, h2⟩ := Bool.and_eq_true_iff.1 h
  obtain ⟨hid, h3⟩ := Bool.and_eq_true_iff.1 h2
  obtain ⟨h4, h5⟩ := Bool.and_eq_true_iff.1 h3
  have h1 := of_decide_eq_true h1
  have h4 := of_decide_eq_true h4
  have h5 := of_decide_eq_true h5
  exact ⟨h1, hid, (lenZ z s).toNat, by omega, by omega⟩
theorem begC_eq (z : Siz) (s : ByteArray) (n : Nat) (h : lenZ z s = (n : Int)) : begC z s = ⟨s.extract 0 4, s.extract 8 (8 + n), padC s n⟩ := by
  unfold begC
  rw [h]
  rfl
theorem begN_eq (z : Siz) (s : ByteArray) (n : Nat) (h : lenZ z s = (n : Int)) : begN z s = 8 + n + (if n % 2 = 1 ∧ 8 + n < s.size then 1 else 0) := by
  unfold begN
  rw [h]
  rfl
theorem odd_beg (z : Siz) (s : ByteArray) (n : Nat) (h : lenZ z s = (n : Int)) (hle : 8 + n ≤ s.size) : oddC (begC z s) = decide (n % 2 = 1) := by
  rw [begC_eq z s n h]
  unfold oddC
  rw [ext_size _ _ _ (by omega) hle]
  congr 1
  rw [Nat.add_sub_cancel_left]
theorem pad_beg (z : Siz) (s : ByteArray) (n : Nat) (h : lenZ z s = (n : Int)) (hle : 8 + n ≤ s.size) : hasPadB (begC z s) = decide (n % 2 = 1 ∧ 8 + n < s.size) := by
  unfold hasPadB
  rw [odd_beg z s n h hle, begC_eq z s n h]
  show (decide (n % 2 = 1) && (padC s n != -1)) = _
  unfold padC
  by_cases h1 : n % 2 = 1
  · by_cases h2 : 8 + n < s.size
    · rw [if_pos h1, if_pos h2, decide_eq_true h1, decide_eq_true ⟨h1, h2⟩, Bool.true_and, bne_iff_ne]
      omega
    · rw [if_pos h1, if_neg h2, decide_eq_true h1, decide_eq_false (fun q => h2 q.2)]
      rfl
  · rw [decide_eq_false h1, decide_eq_false (fun q => h1 q.1)]
    rfl
theorem sizeC_beg (z : Siz) (s : ByteArray) (hb : begB z s = true) : sizeC (begC z s) = begN z s := by
  obtain ⟨_, _, n, hn, hle⟩ := beg_parts z s hb
  unfold sizeC
  rw [pad_beg z s n hn hle, begN_eq z s n hn, begC_eq z s n hn]
  show 8 + (s.extract 8 (8 + n)).size + _ = _
  rw [ext_size _ _ _ (by omega) hle, Nat.add_sub_cancel_left]
  congr 1
  by_cases q : n % 2 = 1 ∧ 8 + n < s.size
  · rw [if_pos q, decide_eq_true q]
    rfl
  · rw [if_neg q, decide_eq_false q]
    rfl
theorem padOk_beg (z : Siz) (s : ByteArray) (hb : begB z s = true) (last : Bool) (hl : (begR z s).size = 0 → last = true) : layOk (begC z s) last = true := by
  obtain ⟨h8, hid, n, hn, hle⟩ := beg_parts z s hb
  rw [layOk_eq]
  have hi : idB (begC z s).id = true := by rw [begC_eq z s n hn]; exact hid
  rw [hi, Bool.true_and]
  have ho := odd_beg z s n hn hle
  by_cases h1 : n % 2 = 1
  · rw [decide_eq_true h1] at ho
    by_cases h2 : 8 + n < s.size
    · have hp : (begC z s).pad = ((bytesOf s).getD (8 + n) 0 : Int) := by
        rw [begC_eq z s n hn]
        show padC s n = _
        unfold padC
        rw [if_pos h1, if_pos h2]
      have hlt : (bytesOf s).getD (8 + n) 0 < 256 := by
        rw [byte_getD s _ h2]
        exact (s[8 + n]'h2).toNat_lt
      rw [padOk_some _ last ho (by rw [hp]; omega), hp, decide_eq_true (by omega), decide_eq_true (by omega)]
      rfl
    · have hp : (begC z s).pad = -1 := by
        rw [begC_eq z s n hn]
        show padC s n = _
        unfold padC
        rw [if_pos h1, if_neg h2]
      rw [padOk_none _ last ho hp]
      apply hl
      unfold begR
      rw [begN_eq z s n hn, if_neg (fun q => h2 q.2), ByteArray.size_extract]
      omega
  · rw [decide_eq_false h1] at ho
    have hp : (begC z s).pad = 0 := by
      rw [begC_eq z s n hn]
      show padC s n = _
      unfold padC
      rw [if_neg h1]
    rw [padOk_even _ last ho, hp]
    rfl
theorem none_ne (x : ByteArray) (h : x.size = 4) : (x.toList == (⟨#[]⟩ : ByteArray).toList) = false := by
  cases q : x.toList == (⟨#[]⟩ : ByteArray).toList
  · rfl
  · have := eq_of_list _ _ q
    rw [this] at h
    cases h
theorem fromN_false (x : ByteArray) : fromN x false = leI x := rfl
theorem take_add {α : Type} (l : List α) (a b : Nat) : l.take (a + b) = l.take a ++ (l.drop a).take b := List.take_add
theorem chunk_beg (z zf : Siz) (s : ByteArray) (hb : begB z s = true) (ht : toldT zf (begC z s) = s.extract 4 8) : chunkL zf (begC z s) = (bytesOf s).take (begN z s) := by
  obtain ⟨h8, hid, n, hn, hle⟩ := beg_parts z s hb
  unfold chunkL
  rw [ht, pad_beg z s n hn hle, begN_eq z s n hn, begC_eq z s n hn]
  show bytesOf (s.extract 0 4) ++ bytesOf (s.extract 4 8) ++ bytesOf (s.extract 8 (8 + n)) ++ _ = _
  simp only [bytes_ext]
  have e1 : ((bytesOf s).take 4).drop 0 = (bytesOf s).take 4 := rfl
  have e2 : ((bytesOf s).take 8).drop 4 = ((bytesOf s).drop 4).take 4 := by rw [List.drop_take]
  have e3 : ((bytesOf s).take (8 + n)).drop 8 = ((bytesOf s).drop 8).take n := by rw [List.drop_take, Nat.add_sub_cancel_left]
  rw [e1, e2, e3]
  have e4 : (bytesOf s).take 4 ++ ((bytesOf s).drop 4).take 4 = (bytesOf s).take 8 := (take_add _ 4 4).symm
  rw [e4, ← take_add]
  by_cases q : n % 2 = 1 ∧ 8 + n < s.size
  · rw [decide_eq_true q, if_pos q]
    have hp : padC s n = ((bytesOf s).getD (8 + n) 0 : Int) := by
      unfold padC
      rw [if_pos q.1, if_pos q.2]
    show _ ++ [(padC s n).toNat] = _
    rw [hp, take_add _ (8 + n) 1]
    congr 1
    have hlt : 8 + n < (bytesOf s).length := by rw [bytesOf_length]; exact q.2
    rw [List.getD_eq_getElem?_getD, List.getElem?_eq_getElem hlt, List.drop_eq_getElem_cons hlt]
    rfl
  · rw [decide_eq_false q, if_neg q]
    simp
theorem ext_left (a b : ByteArray) (i j : Nat) (h : j ≤ a.size) : (a ++ b).extract i j = a.extract i j := by
  rw [ByteArray.extract_append]
  have : b.extract (i - a.size) (j - a.size) = ⟨#[]⟩ := by
    apply ByteArray.ext
    apply Array.eq_empty_of_size_eq_zero
    show (b.extract (i - a.size) (j - a.size)).size = 0
    rw [ByteArray.size_extract]
    omega
  rw [this]
  exact ByteArray.append_empty
theorem ext_right (a b : ByteArray) (i j : Nat) (h : a.size ≤ i) : (a ++ b).extract i j = b.extract (i - a.size) (j - a.size) := by
  rw [ByteArray.extract_append]
  have : a.extract i j = ⟨#[]⟩ := by
    apply ByteArray.ext
    apply Array.eq_empty_of_size_eq_zero
    show (a.extract i j).size = 0
    rw [ByteArray.size_extract]
    omega
  rw [this]
  exact ByteArray.empty_append
theorem ext_all (a : ByteArray) (n : Nat) (h : a.size = n) : a.extract 0 n = a := by
  rw [← h]
  exact ByteArray.extract_zero_size
theorem pad_zero (c : Chk) (h : c.pad = 0) (last : Bool) : padOk c last = true := by
  cases ho : oddC c
  · rw [padOk_even _ _ ho, h]
    rfl
  · rw [padOk_some _ _ ho (by rw [h]; decide), h]
    rfl

theorem lay_id : ∀ (L : List Chk), layAll L = true → ∀ c ∈ L, c.id.size = 4
  | [], _, c, hc => by cases hc
  | [d], h, c, hc => by
    obtain rfl : c = d := by simpa using hc
    have h : layOk c true = true := h
    rw [layOk_eq] at h
    exact idB_size _ (Bool.and_eq_true_iff.1 h).1
  | d :: e :: t, h, c, hc => by
    have h : (layOk d false && layAll (e :: t)) = true := h
    obtain ⟨h1, h2⟩ := Bool.and_eq_true_iff.1 h
    rcases List.mem_cons.1 hc with rfl | hc
    · rw [layOk_eq] at h1
      exact idB_size _ (Bool.and_eq_true_iff.1 h1).1
    · exact lay_id (e :: t) h2 c hc
theorem size_of : ∀ (L : List Chk) (c : Chk), c ∈ L → c.body.size ≤ sizeL L
  | [], c, hc => by cases hc
  | d :: t, c, hc => by
    have e : sizeL (d :: t) = sizeC d + sizeL t := by unfold sizeL; simp
    rw [e]
    rcases List.mem_cons.1 hc with rfl | hc
    · unfold sizeC
      omega
    · have := size_of t c hc
      omega
theorem chkB_refl (c : Chk) : chkB c c = true := by
  unfold chkB
  simp
theorem sameC_refl : ∀ l : List Chk, sameC l l = true
  | [] => rfl
  | c :: t => by
    show (chkB c c && sameC t t) = true
    rw [chkB_refl, sameC_refl t]
    rfl

end Go.Proofs.Ytaepgjheknkojaa

namespace Go.Proofs.Ytaepgjheknkojaa
open Go.RowKit
set_option linter.unusedSimpArgs false
set_option linter.unusedVariables false

/-- Chunks that stand alone: no length is told elsewhere. -/
abbrev zB (big : Bool) : Siz := ⟨big, ⟨#[]⟩, 0⟩
theorem lenZ_one (big : Bool) (s : ByteArray) (hid : idB (s.extract 0 4) = true) : lenZ (zB big) s = lenC s big (-1) := by
  have h := none_ne _ (idB_size _ hid)
  unfold lenZ lenM lenC
  rw [if_neg (by rw [h]; decide), if_neg (by decide)]
theorem begB_one (big : Bool) (s : ByteArray) : begB (zB big) s = oneB s big (-1) := by
  unfold begB oneB
  by_cases h8 : 8 ≤ s.size
  · cases hid : idB (s.extract 0 4)
    · simp
    · rw [lenZ_one big s hid, decide_eq_true (lenC_nonneg s big (-1) h8)]
      simp
  · simp [h8]
theorem begC_one (big : Bool) (s : ByteArray) (hid : idB (s.extract 0 4) = true) : begC (zB big) s = oneC s big (-1) := by
  unfold begC oneC
  rw [lenZ_one big s hid]
theorem begN_one (big : Bool) (s : ByteArray) (hid : idB (s.extract 0 4) = true) : begN (zB big) s = oneN s big (-1) := by
  unfold begN oneN
  rw [lenZ_one big s hid]
theorem ext_ext (s : ByteArray) (a k : Nat) : (s.extract a s.size).extract k (s.extract a s.size).size = s.extract (a + k) s.size := by
  rw [ByteArray.extract_extract, ByteArray.size_extract]
  congr 1
  omega
/-- The program's chunks are the document's. -/
theorem chunk_link (s : ByteArray) (big : Bool) : ∀ (n m at' : Nat) (acc : List Chk), s.size - at' < n → s.size - at' < m → acc.length ≤ 1024 → chunkN n (zB big) acc (s.extract at' s.size) = chunksR s big m at' acc
  | 0, m, at', acc, h, _, _ => absurd h (Nat.not_lt_zero _)
  | n + 1, 0, at', acc, _, h, _ => absurd h (Nat.not_lt_zero _)
  | n + 1, m + 1, at', acc, h1, h2, h3 => by
    have hsz : (s.extract at' s.size).size = s.size - at' := by rw [ByteArray.size_extract]; omega
    by_cases h : at' < s.size
    · have hb := begB_one big (s.extract at' s.size)
      cases hq : oneB (s.extract at' s.size) big (-1)
      · rw [hq] at hb
        rw [chunkN_bad _ _ _ _ (by omega) hb, chunksR_bad _ _ _ _ _ h hq]
      · rw [hq] at hb
        by_cases hl : acc.length = 1024
        · rw [chunkN_many _ _ _ _ (by omega) hb (by omega), chunksR_many _ _ _ _ _ h hq hl]
        · have hid := (beg_parts _ _ hb).2.1
          have hn := oneN_le _ _ _ hq
          rw [chunkN_step _ _ _ _ (by omega) hb (by omega), chunksR_step _ _ _ _ _ h hq hl, begC_one _ _ hid]
          have hr : begR (zB big) (s.extract at' s.size) = s.extract (at' + oneN (s.extract at' s.size) big (-1)) s.size := by
            unfold begR
            rw [begN_one _ _ hid, ext_ext]
          rw [hr]
          exact chunk_link s big n m _ _ (by omega) (by omega) (by rw [List.length_append]; simp; omega)
    · rw [chunkN_end _ _ _ _ (by omega), chunksR_end _ _ _ _ _ h]
theorem chunk_all (s : ByteArray) (big : Bool) : chunkN (s.size + 1) (zB big) [] s = chunksN s big := by
  have h := chunk_link s big (s.size + 1) (s.size + 1) 0 [] (by omega) (by omega) (by simp)
  rw [ByteArray.extract_zero_size] at h
  exact h
theorem stand_lay (l : List Chk) (h : standB l = true) : layE l = 0 := by
  obtain ⟨h1, h2⟩ := Bool.and_eq_true_iff.1 h
  unfold layE
  rw [if_pos ⟨of_decide_eq_true h1, h2⟩]
theorem stand_not (l : List Chk) (big : Bool) (h : standB l = false) : layE l = 60 ∧ layT l big = ⟨#[]⟩ := by
  have hn : ¬ (l.length ≤ 1024 ∧ layAll l = true) := fun q => by
    unfold standB at h
    rw [decide_eq_true q.1, q.2] at h
    cases h
  unfold layE layT
  rw [if_neg hn, if_neg hn]
  exact ⟨rfl, rfl⟩
theorem one_link (c : Chk) (big last : Bool) (h : layOk c last = true) : layOne c big = chunkL (zB big) c := by
  rw [layOk_eq] at h
  obtain ⟨hid, hp⟩ := Bool.and_eq_true_iff.1 h
  have hn := none_ne _ (idB_size _ hid)
  have ht : toldT (zB big) c = toT (c.body.size : Int) big := by
    show toT (toldN (zB big) c) big = _
    have : toldN (zB big) c = (c.body.size : Int) := by
      unfold toldN
      rw [if_neg (by rw [hn]; decide)]
    rw [this]
  unfold layOne chunkL headC
  rw [ht, bytesOf_append, bytesOf_append]
  congr 1
  unfold tailC hasPadB
  cases ho : oddC c
  · simp
  · by_cases hm : c.pad = -1
    · rw [hm]
      simp
    · rw [padOk_some _ _ ho hm] at hp
      have := of_decide_eq_true (Bool.and_eq_true_iff.1 hp).1
      simp [this, hm]
theorem lay_link : ∀ (l : List Chk) (big : Bool), layAll l = true → layL l big = layZ (zB big) l
  | [], big, _ => rfl
  | [c], big, h => by
    have h : layOk c true = true := h
    unfold layL layZ
    simp only [List.flatMap_cons, List.flatMap_nil]
    rw [one_link c big true h]
  | c :: d :: t, big, h => by
    have h : (layOk c false && layAll (d :: t)) = true := h
    obtain ⟨h1, h2⟩ := Bool.and_eq_true_iff.1 h
    have ih := lay_link (d :: t) big h2
    have e1 : layL (c :: d :: t) big = layOne c big ++ layL (d :: t) big := by unfold layL; rw [List.flatMap_cons]
    have e2 : layZ (zB big) (c :: d :: t) = chunkL (zB big) c ++ layZ (zB big) (d :: t) := by unfold layZ; rw [List.flatMap_cons]
    rw [e1, e2, ih, one_link c big false h1]
theorem lay_text (l : List Chk) (big : Bool) (h : standB l = true) : textOf (bytesOf ⟨#[]⟩ ++ layZ (zB big) l) = layT l big := by
  obtain ⟨h1, h2⟩ := Bool.and_eq_true_iff.1 h
  unfold layT
  rw [if_pos ⟨of_decide_eq_true h1, h2⟩, lay_link l big h2]
  rfl

end Go.Proofs.Ytaepgjheknkojaa
