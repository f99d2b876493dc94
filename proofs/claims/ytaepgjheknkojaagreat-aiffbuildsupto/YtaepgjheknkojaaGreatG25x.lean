/- Own text: what was unpacked is packed as it was. chunks, plain laws (of stage 6). the program's chunks and the document's are the same, plain. the walk of lay. -/
import Derived.Test.YtaepgjheknkojaaGreatG24x
import Derived.Test.YtaepgjheknkojaaGreatG23x
import Derived.Test.YtaepgjheknkojaaGreatG11x
namespace Go.Proofs.YtaepgjheknkojaaGreat
open Go.RowKit
set_option linter.unusedSimpArgs false
set_option linter.unusedVariables false

theorem flat_congr {α : Type} (f g : Nat → List α) : ∀ n, (∀ j, j < n → f j = g j) → (List.range n).flatMap f = (List.range n).flatMap g
  | 0, _ => rfl
  | n + 1, h => by
    rw [List.range_succ, List.flatMap_append, List.flatMap_append, flat_congr f g n (fun j hj => h j (by omega))]
    congr 1
    simp only [List.flatMap_cons, List.flatMap_nil, List.append_nil]
    exact h n (by omega)
theorem flat_take {α : Type} (l : List α) (L : Nat) : ∀ n, (List.range n).flatMap (fun j => (l.drop (j * L)).take L) = l.take (n * L)
  | 0 => by simp
  | n + 1 => by
    rw [List.range_succ, List.flatMap_append, flat_take l L n, Nat.succ_mul, List.take_add]
    simp only [List.flatMap_cons, List.flatMap_nil, List.append_nil]
theorem high_val_rev : ∀ l : List Nat, (∀ b ∈ l, b < 256) → highL (val l.reverse) l.length = l.reverse
  | [], _ => rfl
  | b :: t, h => by
    have hb : b < 256 := h b (by simp)
    rw [List.reverse_cons, val_snoc, List.length_cons, highL_succ]
    have e1 : (val t.reverse * 256 + b) / 256 = val t.reverse := by omega
    have e2 : (val t.reverse * 256 + b) % 256 = b := by omega
    rw [e1, e2, high_val_rev t (fun x hx => h x (by simp [hx]))]
theorem high_val (l : List Nat) (n : Nat) (hn : l.length = n) (h : ∀ b ∈ l, b < 256) : highL (val l) n = l := by
  have := high_val_rev l.reverse (fun b hb => h b (List.mem_reverse.1 hb))
  rwa [List.reverse_reverse, List.length_reverse, hn] at this
theorem codeN_decN (wd : Int) (uns : Bool) (m : Nat) (h4 : 4 ≤ wd) (h32 : wd ≤ 32) (hm : m < 256 ^ nby wd) : codeN wd uns (decN wd uns m) = (m : Int) := by
  obtain ⟨n1, n2, n3, n4⟩ := nby_range wd h4 h32
  have hkw : (wd - 1).toNat = wd.toNat - 1 := by omega
  rw [← pow256] at hm
  unfold codeN decN
  rw [hkw]
  rw [pow_eq (8 * nby wd), pow_eq (8 * nby wd - 1), pow_eq]
  generalize (2 : Nat) ^ (wd.toNat - 1) = H at *
  generalize (2 : Nat) ^ (8 * nby wd - 1) = G at *
  generalize (2 : Nat) ^ (8 * nby wd) = M at *
  cases uns
  · simp only [Bool.false_eq_true, if_false]
    by_cases e : (G : Int) ≤ (m : Int)
    · rw [if_pos e, if_pos (by omega)]
      omega
    · rw [if_neg e, if_neg (by omega)]
  · simp only [if_true]
    omega
/-- A number's code is the bytes that it was read from. -/
theorem code_num (s : ByteArray) (wd : Int) (big uns : Bool) (i : Nat) (h4 : 4 ≤ wd) (h32 : wd ≤ 32) (hi : i * nby wd + nby wd ≤ s.size) : codeL big wd uns (numI s wd big uns i) = ((bytesOf s).drop (i * nby wd)).take (nby wd) := by
  have hlt := mOf_lt s (nby wd) big i hi
  have hc := codeN_decN wd uns (mOf s (nby wd) big i) h4 h32 hlt
  have hb : bytesOf (s.extract (i * nby wd) (i * nby wd + nby wd)) = ((bytesOf s).drop (i * nby wd)).take (nby wd) := by rw [bytesOf_extract, takedrop]
  have hl : (((bytesOf s).drop (i * nby wd)).take (nby wd)).length = nby wd := by
    rw [List.length_take, List.length_drop, bytesOf_length]
    omega
  have h256 : ∀ b ∈ ((bytesOf s).drop (i * nby wd)).take (nby wd), b < 256 := fun b hx => bytesOf_lt s b (List.mem_of_mem_drop (List.mem_of_mem_take hx))
  unfold codeL numI
  rw [hc, Int.toNat_natCast]
  unfold mOf
  rw [hb]
  cases big
  · simp only [Bool.false_eq_true, if_false]
    rw [← lowL_reverse, high_val _ _ (by rw [List.length_reverse, hl]) (fun b hx => h256 b (List.mem_reverse.1 hx)), List.reverse_reverse]
  · simp only [if_true]
    exact high_val _ _ hl h256
/-- What was unpacked may be, and is packed as it was. -/
theorem pack_unpack (s : ByteArray) (rate ch wd : Int) (big uns : Bool) (he : unpE s rate ch wd big uns = 0) :
    checkN (unpP s rate ch wd big uns) = 0 ∧ textOf (packL (unpP s rate ch wd big uns) big uns (lenP (unpP s rate ch wd big uns))) = s := by
  have hp : unpP s rate ch wd big uns = ⟨rate, ch, wd, upL s wd big uns ch.toNat (s.size / nby wd)⟩ := by unfold unpP; rw [if_pos he]
  unfold unpE at he
  by_cases hu : uheadB rate ch wd = true
  case neg => rw [if_neg hu] at he; exact absurd he (by decide)
  rw [if_pos hu] at he
  by_cases hm : s.size % (nby wd * ch.toNat) = 0
  case neg => rw [if_neg hm] at he; exact absurd he (by decide)
  rw [if_pos hm] at he
  by_cases h5 : 1048576 < s.size / (nby wd * ch.toNat)
  case pos => rw [if_pos h5] at he; exact absurd he (by decide)
  rw [if_neg h5] at he
  by_cases hall : ∀ i, i < s.size / nby wd → sampB (numI s wd big uns i) wd = true
  case neg => rw [if_neg hall] at he; exact absurd he (by decide)
  obtain ⟨r1, r2, c1, c2, w1, w2⟩ : 1 ≤ rate ∧ rate ≤ 655350 ∧ 1 ≤ ch ∧ ch ≤ 8 ∧ 4 ≤ wd ∧ wd ≤ 32 := of_decide_eq_true hu
  obtain ⟨n1, n2, n3, n4⟩ := nby_range wd w1 w2
  have h0 : 0 < ch.toNat := by omega
  obtain ⟨n, hn⟩ : ∃ n, s.size / (nby wd * ch.toNat) = n := ⟨_, rfl⟩
  have hsz : s.size = n * (ch.toNat * nby wd) := by
    have := Nat.div_add_mod s.size (nby wd * ch.toNat)
    rw [hm, hn, Nat.add_zero] at this
    rw [← this, Nat.mul_comm, Nat.mul_comm ch.toNat]
  have hK : s.size / nby wd = n * ch.toNat := by rw [hsz, ← Nat.mul_assoc, Nat.mul_div_cancel _ (by omega)]
  rw [hK] at hp hall
  have hplane : ∀ k, k < ch.toNat → (upL s wd big uns ch.toNat (n * ch.toNat)).getD k [] = (List.range n).map fun q => numI s wd big uns (q * ch.toNat + k) := fun k hk => upL_full s wd big uns ch.toNat n h0 k hk
  have hul := upL_length s wd big uns ch.toNat (n * ch.toNat)
  have hln : lenP ⟨rate, ch, wd, upL s wd big uns ch.toNat (n * ch.toNat)⟩ = n := by
    unfold lenP
    rw [hplane 0 h0, List.length_map, List.length_range]
  have hjk : ∀ j k, j < n → k < ch.toNat → j * ch.toNat + k < n * ch.toNat := fun j k hj hk => by
    have : (j + 1) * ch.toNat ≤ n * ch.toNat := Nat.mul_le_mul_right _ (by omega)
    rw [Nat.succ_mul] at this
    omega
  rw [hp]
  constructor
  · unfold checkN
    rw [hln, if_pos, if_neg (by omega)]
    rw [Bool.and_eq_true_iff]
    constructor
    · exact decide_eq_true ⟨r1, r2, c1, c2, w1, w2, by show ((upL s wd big uns ch.toNat (n * ch.toNat)).length : Int) = ch; omega⟩
    · rw [List.all_eq_true]
      intro x hx
      obtain ⟨k, hk, rfl⟩ := List.getElem_of_mem hx
      have hk2 : k < ch.toNat := by
        have : k < (upL s wd big uns ch.toNat (n * ch.toNat)).length := hk
        omega
      have e : (upL s wd big uns ch.toNat (n * ch.toNat))[k]'hk = (List.range n).map fun q => numI s wd big uns (q * ch.toNat + k) := by
        rw [← hplane k hk2, List.getD_eq_getElem?_getD, List.getElem?_eq_getElem hk]
        rfl
      unfold planeB
      show (decide (((upL s wd big uns ch.toNat (n * ch.toNat))[k]'hk).length = _) && ((upL s wd big uns ch.toNat (n * ch.toNat))[k]'hk).all _) = true
      rw [e, hln, Bool.and_eq_true_iff]
      refine ⟨decide_eq_true (by rw [List.length_map, List.length_range]), ?_⟩
      rw [List.all_eq_true]
      intro y hy
      obtain ⟨q, hq, rfl⟩ := List.mem_map.1 hy
      exact hall _ (hjk q k (List.mem_range.1 hq) hk2)
  · rw [hln]
    have e : packL ⟨rate, ch, wd, upL s wd big uns ch.toNat (n * ch.toNat)⟩ big uns n = bytesOf s := by
      have e1 : packL ⟨rate, ch, wd, upL s wd big uns ch.toNat (n * ch.toNat)⟩ big uns n = (List.range n).flatMap (fun j => ((bytesOf s).drop (j * (ch.toNat * nby wd))).take (ch.toNat * nby wd)) := by
        unfold packL
        refine flat_congr _ _ n (fun j hj => ?_)
        rw [← flat_take]
        unfold frameL
        refine flat_congr _ _ ch.toNat (fun c hc => ?_)
        show codeL big wd uns (((upL s wd big uns ch.toNat (n * ch.toNat)).getD c []).getD j 0) = _
        rw [hplane c hc, List.getD_eq_getElem?_getD, List.getElem?_map, List.getElem?_range hj, Option.map_some, Option.getD_some, code_num s wd big uns _ w1 w2, List.drop_drop]
        · congr 2
          rw [Nat.add_mul, Nat.mul_assoc]
        · have := Nat.mul_le_mul_right (nby wd) (hjk j c hj hc)
          rw [Nat.succ_mul] at this
          rw [hsz, ← Nat.mul_assoc]
          exact this
      rw [e1, flat_take, ← hsz]
      exact List.take_of_length_le (by rw [bytesOf_length]; exact Nat.le_refl _)
    rw [e, textOf_bytesOf]

end Go.Proofs.YtaepgjheknkojaaGreat

namespace Go.Proofs.YtaepgjheknkojaaGreat
open Go.RowKit
set_option linter.unusedSimpArgs false
set_option linter.unusedVariables false
theorem eq_of_list (a b : ByteArray) (h : (a.toList == b.toList) = true) : a = b := by
  have h := eq_of_beq h
  rw [ByteArray.toList_eq, ByteArray.toList_eq] at h
  apply ByteArray.ext
  exact Array.toList_inj.1 h

theorem bytes_inj {a b : ByteArray} (h : bytesOf a = bytesOf b) : a = b := by
  rw [← textOf_bytesOf a, ← textOf_bytesOf b, h]
theorem bytes_ext (s : ByteArray) (a b : Nat) : bytesOf (s.extract a b) = ((bytesOf s).take b).drop a := bytesOf_extract s a b
theorem beg_parts (z : Siz) (s : ByteArray) (h : begB z s = true) : 8 ≤ s.size ∧ idB (s.extract 0 4) = true ∧ ∃ n : Nat, lenZ z s = (n : Int) ∧ 8 + n ≤ s.size := by
  unfold begB at h
  obtain ⟨h1, h2⟩ := Bool.and_eq_true_iff.1 h
  obtain ⟨hid, h3⟩ := Bool.and_eq_true_iff.1 h2
  obtain ⟨h4, h5⟩ := Bool.and_eq_true_iff.1 h3
  have h1 := of_decide_eq_true h1
  have h4 := of_decide_eq_true h4
  have h5 := of_decide_eq_true h5
  exact ⟨h1, hid, (lenZ z s).toNat, by omega, by omega⟩
theorem begC_eq (z : Siz) (s : ByteArray) (n : Nat) (h : lenZ z s = (n : Int)) : begC z s = ⟨s.extract 0 4, s.extract 8 (8 + n), padC s n⟩ := by
  unfold begC
  rw [h]
  rfl
theorem begN_eq (z : Siz) (s : ByteArray) (n : Nat) (h : lenZ z s = (n : Int)) : begN z s = 8 + n + (if n % 2 = 1 ∧ 8 + n < s.size then 1 else 0) := by
  unfold begN
  rw [h]
  rfl
theorem odd_beg (z : Siz) (s : ByteArray) (n : Nat) (h : lenZ z s = (n : Int)) (hle : 8 + n ≤ s.size) : oddC (begC z s) = decide (n % 2 = 1) := by
  rw [begC_eq z s n h]
  unfold oddC
  rw [ext_size _ _ _ (by omega) hle]
  congr 1
  rw [Nat.add_sub_cancel_left]
theorem pad_beg (z : Siz) (s : ByteArray) (n : Nat) (h : lenZ z s = (n : Int)) (hle : 8 + n ≤ s.size) : hasPadB (begC z s) = decide (n % 2 = 1 ∧ 8 + n < s.size) := by
  unfold hasPadB
  rw [odd_beg z s n h hle, begC_eq z s n h]
  show (decide (n % 2 = 1) && (padC s n != -1)) = _
  unfold padC
  by_cases h1 : n % 2 = 1
  · by_cases h2 : 8 + n < s.size
    · rw [if_pos h1, if_pos h2, decide_eq_true h1, decide_eq_true ⟨h1, h2⟩, Bool.true_and, bne_iff_ne]
      omega
    · rw [if_pos h1, if_neg h2, decide_eq_true h1, decide_eq_false (fun q => h2 q.2)]
      rfl
  · rw [decide_eq_false h1, decide_eq_false (fun q => h1 q.1)]
    rfl
theorem sizeC_beg (z : Siz) (s : ByteArray) (hb : begB z s = true) : sizeC (begC z s) = begN z s := by
  obtain ⟨_, _, n, hn, hle⟩ := beg_parts z s hb
  unfold sizeC
  rw [pad_beg z s n hn hle, begN_eq z s n hn, begC_eq z s n hn]
  show 8 + (s.extract 8 (8 + n)).size + _ = _
  rw [ext_size _ _ _ (by omega) hle, Nat.add_sub_cancel_left]
  congr 1
  by_cases q : n % 2 = 1 ∧ 8 + n < s.size
  · rw [if_pos q, decide_eq_true q]
    rfl
  · rw [if_neg q, decide_eq_false q]
    rfl
theorem padOk_beg (z : Siz) (s : ByteArray) (hb : begB z s = true) (last : Bool) (hl : (begR z s).size = 0 → last = true) : layOk (begC z s) last = true := by
  obtain ⟨h8, hid, n, hn, hle⟩ := beg_parts z s hb
  rw [layOk_eq]
  have hi : idB (begC z s).id = true := by rw [begC_eq z s n hn]; exact hid
  rw [hi, Bool.true_and]
  have ho := odd_beg z s n hn hle
  by_cases h1 : n % 2 = 1
  · rw [decide_eq_true h1] at ho
    by_cases h2 : 8 + n < s.size
    · have hp : (begC z s).pad = ((bytesOf s).getD (8 + n) 0 : Int) := by
        rw [begC_eq z s n hn]
        show padC s n = _
        unfold padC
        rw [if_pos h1, if_pos h2]
      have hlt : (bytesOf s).getD (8 + n) 0 < 256 := by
        rw [byte_getD s _ h2]
        exact (s[8 + n]'h2).toNat_lt
      rw [padOk_some _ last ho (by rw [hp]; omega), hp, decide_eq_true (by omega), decide_eq_true (by omega)]
      rfl
    · have hp : (begC z s).pad = -1 := by
        rw [begC_eq z s n hn]
        show padC s n = _
        unfold padC
        rw [if_pos h1, if_neg h2]
      rw [padOk_none _ last ho hp]
      apply hl
      unfold begR
      rw [begN_eq z s n hn, if_neg (fun q => h2 q.2), ByteArray.size_extract]
      omega
  · rw [decide_eq_false h1] at ho
    have hp : (begC z s).pad = 0 := by
      rw [begC_eq z s n hn]
      show padC s n = _
      unfold padC
      rw [if_neg h1]
    rw [padOk_even _ last ho, hp]
    rfl
theorem none_ne (x : ByteArray) (h : x.size = 4) : (x.toList == (⟨#[]⟩ : ByteArray).toList) = false := by
  cases q : x.toList == (⟨#[]⟩ : ByteArray).toList
  · rfl
  · have := eq_of_list _ _ q
    rw [this] at h
    cases h
theorem fromN_false (x : ByteArray) : fromN x false = leI x := rfl
theorem take_add {α : Type} (l : List α) (a b : Nat) : l.take (a + b) = l.take a ++ (l.drop a).take b := List.take_add
theorem chunk_beg (z zf : Siz) (s : ByteArray) (hb : begB z s = true) (ht : toldT zf (begC z s) = s.extract 4 8) : chunkL zf (begC z s) = (bytesOf s).take (begN z s) := by
  obtain ⟨h8, hid, n, hn, hle⟩ := beg_parts z s hb
  unfold chunkL
  rw [ht, pad_beg z s n hn hle, begN_eq z s n hn, begC_eq z s n hn]
  show bytesOf (s.extract 0 4) ++ bytesOf (s.extract 4 8) ++ bytesOf (s.extract 8 (8 + n)) ++ _ = _
  simp only [bytes_ext]
  have e1 : ((bytesOf s).take 4).drop 0 = (bytesOf s).take 4 := rfl
  have e2 : ((bytesOf s).take 8).drop 4 = ((bytesOf s).drop 4).take 4 := by rw [List.drop_take]
  have e3 : ((bytesOf s).take (8 + n)).drop 8 = ((bytesOf s).drop 8).take n := by rw [List.drop_take, Nat.add_sub_cancel_left]
  rw [e1, e2, e3]
  have e4 : (bytesOf s).take 4 ++ ((bytesOf s).drop 4).take 4 = (bytesOf s).take 8 := (take_add _ 4 4).symm
  rw [e4, ← take_add]
  by_cases q : n % 2 = 1 ∧ 8 + n < s.size
  · rw [decide_eq_true q, if_pos q]
    have hp : padC s n = ((bytesOf s).getD (8 + n) 0 : Int) := by
      unfold padC
      rw [if_pos q.1, if_pos q.2]
    show _ ++ [(padC s n).toNat] = _
    rw [hp, take_add _ (8 + n) 1]
    congr 1
    have hlt : 8 + n < (bytesOf s).length := by rw [bytesOf_length]; exact q.2
    rw [List.getD_eq_getElem?_getD, List.getElem?_eq_getElem hlt, List.drop_eq_getElem_cons hlt]
    rfl
  · rw [decide_eq_false q, if_neg q]
    simp
theorem ext_left (a b : ByteArray) (i j : Nat) (h : j ≤ a.size) : (a ++ b).extract i j = a.extract i j := by
  rw [ByteArray.extract_append]
  have : b.extract (i - a.size) (j - a.size) = ⟨#[]⟩ := by
    apply ByteArray.ext
    apply Array.eq_empty_of_size_eq_zero
    show (b.extract (i - a.size) (j - a.size)).size = 0
    rw [ByteArray.size_extract]
    omega
  rw [this]
  exact ByteArray.append_empty
theorem ext_right (a b : ByteArray) (i j : Nat) (h : a.size ≤ i) : (a ++ b).extract i j = b.extract (i - a.size) (j - a.size) := by
  rw [ByteArray.extract_append]
  have : a.extract i j = ⟨#[]⟩ := by
    apply ByteArray.ext
    apply Array.eq_empty_of_size_eq_zero
    show (a.extract i j).size = 0
    rw [ByteArray.size_extract]
    omega
  rw [this]
  exact ByteArray.empty_append
theorem ext_all (a : ByteArray) (n : Nat) (h : a.size = n) : a.extract 0 n = a := by
  rw [← h]
  exact ByteArray.extract_zero_size
theorem pad_zero (c : Chk) (h : c.pad = 0) (last : Bool) : padOk c last = true := by
  cases ho : oddC c
  · rw [padOk_even _ _ ho, h]
    rfl
  · rw [padOk_some _ _ ho (by rw [h]; decide), h]
    rfl

theorem lay_id : ∀ (L : List Chk), layAll L = true → ∀ c ∈ L, c.id.size = 4
  | [], _, c, hc => by cases hc
  | [d], h, c, hc => by
    obtain rfl : c = d := by simpa using hc
    have h : layOk c true = true := h
    rw [layOk_eq] at h
    exact idB_size _ (Bool.and_eq_true_iff.1 h).1
  | d :: e :: t, h, c, hc => by
    have h : (layOk d false && layAll (e :: t)) = true := h
    obtain ⟨h1, h2⟩ := Bool.and_eq_true_iff.1 h
    rcases List.mem_cons.1 hc with rfl | hc
    · rw [layOk_eq] at h1
      exact idB_size _ (Bool.and_eq_true_iff.1 h1).1
    · exact lay_id (e :: t) h2 c hc
theorem size_of : ∀ (L : List Chk) (c : Chk), c ∈ L → c.body.size ≤ sizeL L
  | [], c, hc => by cases hc
  | d :: t, c, hc => by
    have e : sizeL (d :: t) = sizeC d + sizeL t := by unfold sizeL; simp
    rw [e]
    rcases List.mem_cons.1 hc with rfl | hc
    · unfold sizeC
      omega
    · have := size_of t c hc
      omega
theorem chkB_refl (c : Chk) : chkB c c = true := by
  unfold chkB
  simp
theorem sameC_refl : ∀ l : List Chk, sameC l l = true
  | [] => rfl
  | c :: t => by
    show (chkB c c && sameC t t) = true
    rw [chkB_refl, sameC_refl t]
    rfl

end Go.Proofs.YtaepgjheknkojaaGreat

namespace Go.Proofs.YtaepgjheknkojaaGreat
open Go.RowKit
set_option linter.unusedSimpArgs false
set_option linter.unusedVariables false

/-- Chunks that stand alone: no length is told elsewhere. -/
abbrev zB (big : Bool) : Siz := ⟨big, ⟨#[]⟩, 0⟩
theorem lenZ_one (big : Bool) (s : ByteArray) (hid : idB (s.extract 0 4) = true) : lenZ (zB big) s = lenC s big (-1) := by
  have h := none_ne _ (idB_size _ hid)
  unfold lenZ lenM lenC
  rw [if_neg (by rw [h]; decide), if_neg (by decide)]
theorem begB_one (big : Bool) (s : ByteArray) : begB (zB big) s = oneB s big (-1) := by
  unfold begB oneB
  by_cases h8 : 8 ≤ s.size
  · cases hid : idB (s.extract 0 4)
    · simp
    · rw [lenZ_one big s hid, decide_eq_true (lenC_nonneg s big (-1) h8)]
      simp
  · simp [h8]
theorem begC_one (big : Bool) (s : ByteArray) (hid : idB (s.extract 0 4) = true) : begC (zB big) s = oneC s big (-1) := by
  unfold begC oneC
  rw [lenZ_one big s hid]
theorem begN_one (big : Bool) (s : ByteArray) (hid : idB (s.extract 0 4) = true) : begN (zB big) s = oneN s big (-1) := by
  unfold begN oneN
  rw [lenZ_one big s hid]
theorem ext_ext (s : ByteArray) (a k : Nat) : (s.extract a s.size).extract k (s.extract a s.size).size = s.extract (a + k) s.size := by
  rw [ByteArray.extract_extract, ByteArray.size_extract]
  congr 1
  omega
/-- The program's chunks are the document's. -/
theorem chunk_link (s : ByteArray) (big : Bool) : ∀ (n m at' : Nat) (acc : List Chk), s.size - at' < n → s.size - at' < m → acc.length ≤ 1024 → chunkN n (zB big) acc (s.extract at' s.size) = chunksR s big m at' acc
  | 0, m, at', acc, h, _, _ => absurd h (Nat.not_lt_zero _)
  | n + 1, 0, at', acc, _, h, _ => absurd h (Nat.not_lt_zero _)
  | n + 1, m + 1, at', acc, h1, h2, h3 => by
    have hsz : (s.extract at' s.size).size = s.size - at' := by rw [ByteArray.size_extract]; omega
    by_cases h : at' < s.size
    · have hb := begB_one big (s.extract at' s.size)
      cases hq : oneB (s.extract at' s.size) big (-1)
      · rw [hq] at hb
        rw [chunkN_bad _ _ _ _ (by omega) hb, chunksR_bad _ _ _ _ _ h hq]
      · rw [hq] at hb
        by_cases hl : acc.length = 1024
        · rw [chunkN_many _ _ _ _ (by omega) hb (by omega), chunksR_many _ _ _ _ _ h hq hl]
        · have hid := (beg_parts _ _ hb).2.1
          have hn := oneN_le _ _ _ hq
          rw [chunkN_step _ _ _ _ (by omega) hb (by omega), chunksR_step _ _ _ _ _ h hq hl, begC_one _ _ hid]
          have hr : begR (zB big) (s.extract at' s.size) = s.extract (at' + oneN (s.extract at' s.size) big (-1)) s.size := by
            unfold begR
            rw [begN_one _ _ hid, ext_ext]
          rw [hr]
          exact chunk_link s big n m _ _ (by omega) (by omega) (by rw [List.length_append]; simp; omega)
    · rw [chunkN_end _ _ _ _ (by omega), chunksR_end _ _ _ _ _ h]
theorem chunk_all (s : ByteArray) (big : Bool) : chunkN (s.size + 1) (zB big) [] s = chunksN s big := by
  have h := chunk_link s big (s.size + 1) (s.size + 1) 0 [] (by omega) (by omega) (by simp)
  rw [ByteArray.extract_zero_size] at h
  exact h
theorem stand_lay (l : List Chk) (h : standB l = true) : layE l = 0 := by
  obtain ⟨h1, h2⟩ := Bool.and_eq_true_iff.1 h
  unfold layE
  rw [if_pos ⟨of_decide_eq_true h1, h2⟩]
theorem stand_not (l : List Chk) (big : Bool) (h : standB l = false) : layE l = 60 ∧ layT l big = ⟨#[]⟩ := by
  have hn : ¬ (l.length ≤ 1024 ∧ layAll l = true) := fun q => by
    unfold standB at h
    rw [decide_eq_true q.1, q.2] at h
    cases h
  unfold layE layT
  rw [if_neg hn, if_neg hn]
  exact ⟨rfl, rfl⟩
theorem one_link (c : Chk) (big last : Bool) (h : layOk c last = true) : layOne c big = chunkL (zB big) c := by
  rw [layOk_eq] at h
  obtain ⟨hid, hp⟩ := Bool.and_eq_true_iff.1 h
  have hn := none_ne _ (idB_size _ hid)
  have ht : toldT (zB big) c = toT (c.body.size : Int) big := by
    show toT (toldN (zB big) c) big = _
    have : toldN (zB big) c = (c.body.size : Int) := by
      unfold toldN
      rw [if_neg (by rw [hn]; decide)]
    rw [this]
  unfold layOne chunkL headC
  rw [ht, bytesOf_append, bytesOf_append]
  congr 1
  unfold tailC hasPadB
  cases ho : oddC c
  · simp
  · by_cases hm : c.pad = -1
    · rw [hm]
      simp
    · rw [padOk_some _ _ ho hm] at hp
      have := of_decide_eq_true (Bool.and_eq_true_iff.1 hp).1
      simp [this, hm]
theorem lay_link : ∀ (l : List Chk) (big : Bool), layAll l = true → layL l big = layZ (zB big) l
  | [], big, _ => rfl
  | [c], big, h => by
    have h : layOk c true = true := h
    unfold layL layZ
    simp only [List.flatMap_cons, List.flatMap_nil]
    rw [one_link c big true h]
  | c :: d :: t, big, h => by
    have h : (layOk c false && layAll (d :: t)) = true := h
    obtain ⟨h1, h2⟩ := Bool.and_eq_true_iff.1 h
    have ih := lay_link (d :: t) big h2
    have e1 : layL (c :: d :: t) big = layOne c big ++ layL (d :: t) big := by unfold layL; rw [List.flatMap_cons]
    have e2 : layZ (zB big) (c :: d :: t) = chunkL (zB big) c ++ layZ (zB big) (d :: t) := by unfold layZ; rw [List.flatMap_cons]
    rw [e1, e2, ih, one_link c big false h1]
theorem lay_text (l : List Chk) (big : Bool) (h : standB l = true) : textOf (bytesOf ⟨#[]⟩ ++ layZ (zB big) l) = layT l big := by
  obtain ⟨h1, h2⟩ := Bool.and_eq_true_iff.1 h
  unfold layT
  rw [if_pos ⟨of_decide_eq_true h1, h2⟩, lay_link l big h2]
  rfl

end Go.Proofs.YtaepgjheknkojaaGreat

namespace Go.Proofs.YtaepgjheknkojaaGreat
open Go.RowKit
set_option linter.unusedSimpArgs false
set_option linter.unusedVariables false

theorem kept_box {w w' : World} {S Q : Nat} {d : Array Value} {T : TypeId} (h : w.heap[Q]? = some (.cells d T (0, 0))) (hk : Lib.OthersKept 5 (some S) w w') (hne : Q ≠ S) (hT : T ≠ 5) : w'.heap[Q]? = some (.cells d T (0, 0)) :=
  hk Q _ h (fun q => hne (by simpa using q)) (fun c fz e => by
    have : T = 5 := by injection e
    exact hT this)
theorem below_box {w w' : World} {Q : Nat} {d : Array Value} {T : TypeId} (h : w.heap[Q]? = some (.cells d T (0, 0))) (hB : Below w.heap.size w w') : w'.heap[Q]? = some (.cells d T (0, 0)) := (hB.block _ (lt_of_block h)).trans h

theorem pad_range (c : Chk) (last : Bool) (h : layOk c last = true) (hp : hasPadB c = true) : 0 ≤ c.pad ∧ c.pad ≤ 255 := by
  rw [layOk_eq] at h
  obtain ⟨_, h⟩ := Bool.and_eq_true_iff.1 h
  unfold hasPadB at hp
  obtain ⟨ho, hn⟩ := Bool.and_eq_true_iff.1 hp
  rw [padOk_some c last ho (by simpa using hn)] at h
  obtain ⟨h1, h2⟩ := Bool.and_eq_true_iff.1 h
  exact ⟨of_decide_eq_true h1, of_decide_eq_true h2⟩
set_option maxRecDepth 20000 in
set_option maxHeartbeats 6400000 in
theorem lay_spec (z : Siz) (ah : ByteArray) (l : List Chk) (ao : Option Addr) (cap : Nat) (w : World) (hl : ChksAt w ao l) (hf : FairL l) (hst : standB l = true) (hsz : ah.size + sizeL l ≤ 140737488355328) :
    Calls Tryz.prog 96 #[.agg (sizC z), .string ah, .slice ao l.length cap] w fun e w' => e = .returned (.string (textOf (bytesOf ah ++ layZ z l))) ∧ Below w.heap.size w w' := by
  have hll : l.length ≤ 1024 := of_decide_eq_true (Bool.and_eq_true_iff.1 hst).1
  have HOK : Hid (∀ (i : Nat) (c : Chk), l[i]? = some c → layOk c (decide (i + 1 = l.length)) = true) := (layAll_iff l).1 (Bool.and_eq_true_iff.1 hst).2
  have HID : Hid (∀ c ∈ l, idB c.id = true) := fun c hc => by
    obtain ⟨i, hi⟩ := List.mem_iff_getElem?.1 hc
    have := HOK.out i c hi
    rw [layOk_eq] at this
    exact (Bool.and_eq_true_iff.1 this).1
  have HL : Hid (ChksAt w ao l) := hl
  have HF : Hid (FairL l) := hf
  have HLT : Hid (∀ k, (layZ z (l.take k)).length ≤ sizeL (l.take k)) := fun k => layZ_len z _ fun c hc => HID.out c (List.mem_of_mem_take hc)
  have hB0 : Below w.heap.size w ((w.alloc (.cells (sizC z) 145)).alloc (.cells #[.pointer none, .slice none 0 0] 109)) := ((Below.refl _ _).alloc (Nat.le_refl _) _).alloc (by simp) _
  have HB0 : Hid (Below w.heap.size w ((w.alloc (.cells (sizC z) 145)).alloc (.cells #[.pointer none, .slice none 0 0] 109)) ∧ ((w.alloc (.cells (sizC z) 145)).alloc (.cells #[.pointer none, .slice none 0 0] 109)).heap[w.heap.size]? = some (.cells (sizC z) 145 (0, 0)) ∧ ((w.alloc (.cells (sizC z) 145)).alloc (.cells #[.pointer none, .slice none 0 0] 109)).heap[w.heap.size + 1]? = some (.cells #[.pointer none, .slice none 0 0] 109 (0, 0))) := by
    refine ⟨hB0, ?_, ?_⟩
    · exact (((Below.refl _ _).alloc (Nat.le_refl _) _).block _ (by simp)).trans (heap_alloc_new w _)
    · rw [← show (w.alloc (.cells (sizC z) 145)).heap.size = w.heap.size + 1 from by simp]
      exact heap_alloc_new _ _
  have ks := sizeOf_spec l ao cap ((w.alloc (.cells (sizC z) 145)).alloc (.cells #[.pointer none, .slice none 0 0] 109)) (hl.below hB0) (by omega) (by omega)
  have HSI : Hid ((ah.size : Int) + (sizeL l : Int) = ((ah.size + sizeL l : Nat) : Int)) := by show _ = _; omega
  have HSZ : Hid (ah.size + sizeL l ≤ 140737488355328) := hsz
  clear hl hf hst hB0
  go_enter Tryz.func96, Tryz.ntmps96
  go_wp2_with fail
  refine ks.mono ?_
  rintro e w2 ⟨rfl, hB2⟩
  have H2 : Hid (Below w.heap.size w w2 ∧ w2.heap[w.heap.size]? = some (.cells (sizC z) 145 (0, 0)) ∧ w2.heap[w.heap.size + 1]? = some (.cells #[.pointer none, .slice none 0 0] 109 (0, 0))) :=
    ⟨HB0.out.1.trans (hB2.mono HB0.out.1.size), below_box HB0.out.2.1 hB2, below_box HB0.out.2.2 hB2⟩
  have kg := grow_spec (w.heap.size + 1) (w.heap.size + 1) (ah.size + sizeL l) w2 (Nat.le_refl _) H2.out.2.2 (Nat.le_of_lt (lt_of_block H2.out.2.2)) (by omega)
  clear ks hB2 HB0
  go_wp2_with fail
  rw [HSI.out]
  refine kg.mono ?_
  rintro e w3 ⟨rfl, hb3, hB3⟩
  have H3 : Hid (Wl w z [] w3) := ⟨by rw [hB3.block _ (Nat.lt_succ_self _)]; exact H2.out.2.1, Lib.BuilderAtF.of hb3, H2.out.1.trans (hB3.mono (Nat.le_succ _))⟩
  have kw := H3.out.write ah (by simp; omega)
  clear kg hb3 hB3 H2
  go_wp2_with fail
  refine kw.mono ?_
  rintro e w4 ⟨rfl, h4, _⟩
  clear kw H3
  go_wp2_with fail
  go_loopw [20] (fun t wr => ∃ k : Nat, k ≤ l.length ∧ t = .int .i64 (k : Int) ∧ Wl w z (bytesOf ah ++ layZ z (l.take k)) wr) (fun t _ => l.length - (intOf t).toNat)
  case atStart => exact ⟨0, Nat.zero_le _, rfl, by simpa [layZ] using h4.out⟩
  case round =>
    clear h4
    obtain ⟨k, hk, rfl, hW⟩ := hrel
    have HW : Hid (Wl w z (bytesOf ah ++ layZ z (l.take k)) wr) := hW
    clear hW
    by_cases hlt : k < l.length
    · obtain ⟨c, hc⟩ : ∃ c, l[k]? = some c := ⟨_, List.getElem?_eq_getElem hlt⟩
      have hcm : c ∈ l := List.mem_of_getElem? hc
      obtain ⟨b, off, rfl, hcl⟩ := HL.out.at k c hc
      obtain ⟨x0, x1, x2⟩ := hcl wr HW.out.below
      have HST : Hid (bytesOf ah ++ layZ z (l.take (k + 1)) = bytesOf ah ++ layZ z (l.take k) ++ (bytesOf c.id ++ bytesOf (toldT z c) ++ bytesOf c.body ++ (if hasPadB c then [c.pad.toNat] else []))) := by
        show _ = _
        rw [layZ_take z l k c hc, List.append_assoc]
        rfl
      have HLE : Hid ((bytesOf ah ++ layZ z (l.take k)).length + (8 + c.body.size + (if hasPadB c then 1 else 0)) ≤ 140737488355328) := by
        have h1 := HLT.out k
        have h2 := sizeL_take l k c hc
        have h3 := sizeL_le l (k + 1)
        have h4 := HSZ.out
        have h5 : sizeC c = 8 + c.body.size + (if hasPadB c then 1 else 0) := rfl
        show _ ≤ _
        rw [List.length_append, bytesOf_length, ← h5]
        omega
      have HFC := HF.out c hcm
      have hid4 := idB_size _ (HID.out c hcm)
      have htl : (toldT z c).size ≤ 4 := toT_size (toldN z c) z.big
      have hok := HOK.out k c hc
      have kt := told_spec z c HFC.2
      have kp := hasPad_spec c
      have HPD : Hid (hasPadB c = true → 0 ≤ c.pad ∧ c.pad ≤ 255) := fun q => pad_range c _ hok q
      have HQa : Hid ((wr.alloc (.cells (chkC c) 55)).heap[wr.heap.size]? = some (.cells (chkC c) 55 (0, 0)) ∧ w.heap.size + 1 < wr.heap.size) := ⟨heap_alloc_new wr _, bf_lt HW.out.bd⟩
      have HWa : Hid (Wl w z (bytesOf ah ++ layZ z (l.take k)) (wr.alloc (.cells (chkC c) 55))) := HW.out.next ((Below.refl _ _).alloc (Nat.le_refl _) _)
      have hle0 : (bytesOf ah ++ layZ z (l.take k)).length + 8 + c.body.size ≤ 140737488355328 := by have := HLE.out; omega
      have HLX : Hid (l.take (k + 1) = l.take (k + 1)) := rfl
      clear hcl hc hcm HFC hok HW
      generalize toldT z c = TT at *
      generalize bytesOf ah ++ layZ z (l.take k) = LL at *
      have k1 := HWa.out.write c.id (by omega)
      go_wp2_with fail
      generalize wr.alloc (.cells (chkC c) 55) = wa at *
      generalize wr.heap.size = Q at *
      refine k1.mono ?_
      rintro e w5 ⟨rfl, h5, hk5⟩
      have HQ5 : Hid (w5.heap[Q]? = some (.cells (chkC c) 55 (0, 0)) ∧ w.heap.size + 1 < Q) := ⟨kept_box HQa.out.1 hk5 (by have := HQa.out.2; omega) (by decide), HQa.out.2⟩
      have s0 := h5.out.s 0 _ rfl
      have s1 := h5.out.s 1 _ rfl
      have s2 := h5.out.s 2 _ rfl
      have d0 : w5.cell? ⟨Q, 0, none⟩ = some (.string c.id) := by rw [cell_of_row _ _ _ _ _ _ HQ5.out.1]; rfl
      have d1 : w5.cell? ⟨Q, 1, none⟩ = some (.string c.body) := by rw [cell_of_row _ _ _ _ _ _ HQ5.out.1]; rfl
      have d2 : w5.cell? ⟨Q, 2, none⟩ = some (.int .i64 c.pad) := by rw [cell_of_row _ _ _ _ _ _ HQ5.out.1]; rfl
      clear k1 hk5 HWa HQa x0 x1 x2
      go_wp2_with fail
      refine (kt w5).mono ?_
      rintro e w6 ⟨rfl, hB6⟩
      have H6 : Hid (Wl w z (LL ++ bytesOf c.id) w6) := h5.out.next hB6
      have HQ6 : Hid (w6.heap[Q]? = some (.cells (chkC c) 55 (0, 0)) ∧ w.heap.size + 1 < Q) := ⟨below_box HQ5.out.1 hB6, HQ5.out.2⟩
      have k2 := H6.out.write TT (by rw [List.length_append, bytesOf_length]; omega)
      clear kt hB6 h5 HQ5 s0 s1 s2 d0 d1 d2
      go_wp2_with fail
      refine k2.mono ?_
      rintro e w7 ⟨rfl, h7, hk7⟩
      have HQ7 : Hid (w7.heap[Q]? = some (.cells (chkC c) 55 (0, 0)) ∧ w.heap.size + 1 < Q) := ⟨kept_box HQ6.out.1 hk7 (by have := HQ6.out.2; omega) (by decide), HQ6.out.2⟩
      have k3 := h7.out.write c.body (by rw [List.length_append, List.length_append, bytesOf_length, bytesOf_length]; omega)
      have d0 : w7.cell? ⟨Q, 0, none⟩ = some (.string c.id) := by rw [cell_of_row _ _ _ _ _ _ HQ7.out.1]; rfl
      have d1 : w7.cell? ⟨Q, 1, none⟩ = some (.string c.body) := by rw [cell_of_row _ _ _ _ _ _ HQ7.out.1]; rfl
      have d2 : w7.cell? ⟨Q, 2, none⟩ = some (.int .i64 c.pad) := by rw [cell_of_row _ _ _ _ _ _ HQ7.out.1]; rfl
      clear k2 hk7 H6 HQ6
      go_wp2_with fail
      refine k3.mono ?_
      rintro e w8 ⟨rfl, h8, hk8⟩
      have HQ8 : Hid (w8.heap[Q]? = some (.cells (chkC c) 55 (0, 0)) ∧ w.heap.size + 1 < Q) := ⟨kept_box HQ7.out.1 hk8 (by have := HQ7.out.2; omega) (by decide), HQ7.out.2⟩
      clear k3 hk8 h7 HQ7 d0 d1 d2
      have d0 : w8.cell? ⟨Q, 0, none⟩ = some (.string c.id) := by rw [cell_of_row _ _ _ _ _ _ HQ8.out.1]; rfl
      have d1 : w8.cell? ⟨Q, 1, none⟩ = some (.string c.body) := by rw [cell_of_row _ _ _ _ _ _ HQ8.out.1]; rfl
      have d2 : w8.cell? ⟨Q, 2, none⟩ = some (.int .i64 c.pad) := by rw [cell_of_row _ _ _ _ _ _ HQ8.out.1]; rfl
      cases hpb : hasPadB c
      · rw [hpb] at kp HST
        have HN : Hid (Wl w z (LL ++ bytesOf c.id ++ bytesOf TT ++ bytesOf c.body) w8) := h8
        clear HPD h8 HLE
        go_wp2_with fail
        refine (kp w8).mono ?_
        rintro e w9 ⟨rfl, hB9⟩
        have H9 : Hid (Wl w z (LL ++ bytesOf c.id ++ bytesOf TT ++ bytesOf c.body) w9) := HN.out.next hB9
        clear kp hB9 HN HQ8 d0 d1 d2
        go_wp2_with fail
        go_roundw
        case rel => exact ⟨k + 1, by omega, by go_num, by rw [HST.out]; simpa using H9.out⟩
        case measure => simp [intOf]; omega
      · rw [hpb] at kp HST HLE
        obtain ⟨hp0, hp1⟩ := HPD.out hpb
        obtain ⟨pn, hpn⟩ : ∃ pn : Nat, c.pad = (pn : Int) := ⟨c.pad.toNat, by omega⟩
        have HPN : Hid (c.pad.toNat = pn ∧ pn < 256) := ⟨by omega, by omega⟩
        have hpl : (pn : Int) ≤ 255 := by omega
        have HD2 : Hid (c.pad = (pn : Int)) := hpn
        have hle1 : LL.length + 8 + c.body.size + 1 ≤ 140737488355328 := by have := HLE.out; simp at this; omega
        have HN : Hid (Wl w z (LL ++ bytesOf c.id ++ bytesOf TT ++ bytesOf c.body) w8) := h8
        clear HPD h8 HLE hpn hp0 hp1
        go_wp2_with fail
        refine (kp w8).mono ?_
        rintro e w9 ⟨rfl, hB9⟩
        have H9 : Hid (Wl w z (LL ++ bytesOf c.id ++ bytesOf TT ++ bytesOf c.body) w9) := HN.out.next hB9
        have HQ9 : Hid (w9.heap[Q]? = some (.cells (chkC c) 55 (0, 0))) := below_box HQ8.out.1 hB9
        have k5 := H9.out.byte pn HPN.out.2 (by simp only [List.length_append, bytesOf_length]; omega)
        clear kp hB9 HN HQ8 d0 d1 d2
        have d2 : w9.cell? ⟨Q, 2, none⟩ = some (.int .i64 (pn : Int)) := by rw [cell_of_row _ _ _ _ _ _ HQ9.out, ← HD2.out]; rfl
        go_wp2_with fail
        refine k5.mono ?_
        rintro e w10 ⟨rfl, h10, _⟩
        clear k5 d2
        go_wp2_with fail
        go_roundw
        case rel => exact ⟨k + 1, by omega, by go_num, by rw [HST.out, HPN.out.1]; simpa using h10.out⟩
        case measure => simp [intOf]; omega
    · have hke : k = l.length := by omega
      subst hke
      rw [List.take_length] at HW
      have kst := HW.out.string
      go_wp2_with fail
      refine kst.mono ?_
      rintro e w9 ⟨rfl, hB9⟩
      have HB9 : Hid (Below w.heap.size w w9) := hB9
      clear kst hB9
      go_wp2_with fail
      go_ret
      exact ⟨rfl, HB9.out⟩

end Go.Proofs.YtaepgjheknkojaaGreat
