/- Own text: chunks with the highest byte first: laid and read, plain laws. boxes, and chunks that a call owns. -/
import Derived.Test.YtaepgjheknkojaaGreatG25x
import Derived.Laws.OwnMore
import Derived.Deep.Onto
namespace Go.Proofs.YtaepgjheknkojaaGreat
open Go.RowKit
set_option linter.unusedSimpArgs false
set_option linter.unusedVariables false

theorem fromN_true (x : ByteArray) : fromN x true = fromBe (bytesOf x) := rfl
theorem beT_size_eq (m k : Nat) (h1 : 1 ≤ k) (h8 : k ≤ 8) (h : m < 256 ^ k) : (beT (m : Int) (k : Int)).size = k := by
  rw [beT_nat m k (fits_of_nat m k h1 h8 h), textOf_size, highL_length]
theorem beT_two (n : Int) (h0 : 0 ≤ n) (h1 : n < 65536) : (beT n 2).size = 2 := by
  have := beT_size_eq n.toNat 2 (by decide) (by decide) (by omega)
  rwa [show ((n.toNat : Nat) : Int) = n from by omega] at this
theorem beT_four (n : Int) (h0 : 0 ≤ n) (h1 : n < 4294967296) : (beT n 4).size = 4 := by
  have := beT_size_eq n.toNat 4 (by decide) (by decide) (by omega)
  rwa [show ((n.toNat : Nat) : Int) = n from by omega] at this
theorem sz_be2 (n : Int) (h0 : 0 ≤ n) (h1 : n < 65536) : fromBe (bytesOf (beT n 2)) = n := by
  obtain ⟨m, rfl⟩ : ∃ m : Nat, n = (m : Int) := ⟨n.toNat, by omega⟩
  have hf := fits_of_nat m 2 (by decide) (by decide) (by omega)
  have e := beT_nat m 2 hf
  rw [show ((2 : Nat) : Int) = 2 from rfl] at e
  rw [e, bytesOf_textOf _ (highL_lt m 2), fromBe_of _ (by rw [highL_length]; decide) (by rw [val_highL]; omega), val_highL]
  omega
theorem sz_be4 (n : Int) (h0 : 0 ≤ n) (h1 : n < 4294967296) : fromBe (bytesOf (beT n 4)) = n := by
  obtain ⟨m, rfl⟩ : ∃ m : Nat, n = (m : Int) := ⟨n.toNat, by omega⟩
  have hf := fits_of_nat m 4 (by decide) (by decide) (by omega)
  have e := beT_nat m 4 hf
  rw [show ((4 : Nat) : Int) = 4 from rfl] at e
  rw [e, bytesOf_textOf _ (highL_lt m 4), fromBe_of _ (by rw [highL_length]; decide) (by rw [val_highL]; omega), val_highL]
  omega
/-- Four bytes as a number, and back. -/
theorem be_from4 (x : ByteArray) (h : x.size = 4) : beT (fromBe (bytesOf x)) 4 = x := by
  have hl : (bytesOf x).length = 4 := by rw [bytesOf_length, h]
  have hlt := bytesOf_lt x
  have h1 := val_lt _ hlt
  rw [hl] at h1
  have e : fromBe (bytesOf x) = ((val (bytesOf x) : Nat) : Int) := fromBe_of _ (by omega) (by omega)
  have hf := fits_of_nat (val (bytesOf x)) 4 (by decide) (by decide) h1
  have e2 := beT_nat (val (bytesOf x)) 4 hf
  rw [e]
  refine e2.trans ?_
  rw [high_val _ 4 hl hlt, textOf_bytesOf]
/-- How a text was read. -/
def ReadsC : List Chk → ByteArray → Prop
  | [], s => s.size = 0
  | c :: t, s => begB (zB true) s = true ∧ c = begC (zB true) s ∧ ReadsC t (begR (zB true) s)
theorem chunk_reads : ∀ (n : Nat) (acc : List Chk) (s : ByteArray) (l : List Chk), s.size < n → chunkN n (zB true) acc s = (l, 0) →
    ∃ L, l = acc ++ L ∧ ReadsC L s ∧ (acc.length ≤ 1024 → acc.length + L.length ≤ 1024)
  | 0, acc, s, l, h, _ => absurd h (Nat.not_lt_zero _)
  | n + 1, acc, s, l, h, he => by
    by_cases h0 : s.size = 0
    · rw [chunkN_end _ _ _ _ h0] at he
      have he : acc = l := congrArg Prod.fst he
      exact ⟨[], by rw [he, List.append_nil], h0, fun q => q⟩
    · cases hb : begB (zB true) s
      · rw [chunkN_bad _ _ _ _ h0 hb] at he
        have := congrArg Prod.snd he
        cases this
      · by_cases hl : 1024 ≤ acc.length
        · rw [chunkN_many _ _ _ _ h0 hb hl] at he
          have := congrArg Prod.snd he
          cases this
        · rw [chunkN_step _ _ _ _ h0 hb hl] at he
          have hr := begR_size (zB true) s hb
          obtain ⟨L, e1, e2, e3⟩ := chunk_reads n _ _ l (by omega) he
          refine ⟨begC (zB true) s :: L, by rw [e1, List.append_assoc]; rfl, ⟨hb, rfl, e2⟩, fun _ => ?_⟩
          have := e3 (by rw [List.length_append]; simp; omega)
          rw [List.length_append] at this
          simp at this ⊢
          omega
theorem readsC_size : ∀ (L : List Chk) (s : ByteArray), ReadsC L s → sizeL L = s.size
  | [], s, h => by
    have h : s.size = 0 := h
    rw [h]
    rfl
  | c :: t, s, h => by
    obtain ⟨hb, rfl, hr⟩ := h
    have ih := readsC_size t _ hr
    have e : sizeL (begC (zB true) s :: t) = sizeC (begC (zB true) s) + sizeL t := by simp [sizeL]
    have hN := begN_le (zB true) s hb
    rw [e, ih, sizeC_beg (zB true) s hb]
    unfold begR
    rw [ext_size _ _ _ hN.2 (Nat.le_refl _)]
    omega
theorem readsC_nil (t : List Chk) (s : ByteArray) (h : ReadsC t s) (h0 : s.size = 0) : t = [] := by
  cases t with
  | nil => rfl
  | cons c t =>
    have := (beg_parts (zB true) s h.1).1
    omega
theorem readsC_lay : ∀ (L : List Chk) (s : ByteArray), ReadsC L s → layAll L = true
  | [], s, h => rfl
  | [c], s, h => by
    obtain ⟨hb, rfl, _⟩ := h
    exact padOk_beg (zB true) s hb true (fun _ => rfl)
  | c :: d :: t, s, h => by
    obtain ⟨hb, rfl, hr⟩ := h
    show (layOk _ false && layAll (d :: t)) = true
    rw [readsC_lay (d :: t) _ hr, Bool.and_true]
    refine padOk_beg (zB true) s hb false (fun h0 => ?_)
    cases readsC_nil _ _ hr h0
theorem toldC_beg (s : ByteArray) (hb : begB (zB true) s = true) : toldT (zB true) (begC (zB true) s) = s.extract 4 8 := by
  obtain ⟨h8, hid, n, hn, hle⟩ := beg_parts (zB true) s hb
  have hx : (s.extract 4 8).size = 4 := ext_size _ _ _ (by omega) h8
  have hbs : (begC (zB true) s).body.size = n := by
    rw [begC_eq (zB true) s n hn]
    show (s.extract 8 (8 + n)).size = n
    rw [ext_size _ _ _ (by omega) hle, Nat.add_sub_cancel_left]
  have hci : (begC (zB true) s).id = s.extract 0 4 := by rw [begC_eq (zB true) s n hn]
  have hno := none_ne _ (idB_size _ hid)
  have hl : lenZ (zB true) s = fromBe (bytesOf (s.extract 4 8)) := by
    unfold lenZ lenM
    rw [if_neg (by rw [hno]; decide)]
    rfl
  have ht : toldN (zB true) (begC (zB true) s) = fromBe (bytesOf (s.extract 4 8)) := by
    unfold toldN
    rw [hci, if_neg (by rw [hno]; decide), hbs, ← hl, hn]
  show toT (toldN (zB true) (begC (zB true) s)) true = _
  rw [ht, toT_true, be_from4 _ hx]
theorem readsC_text : ∀ (L : List Chk) (s : ByteArray), ReadsC L s → layZ (zB true) L = bytesOf s
  | [], s, h => by
    have h : s.size = 0 := h
    have : (bytesOf s).length = 0 := by rw [bytesOf_length]; exact h
    rw [List.length_eq_zero_iff.1 this]
    rfl
  | c :: t, s, h => by
    obtain ⟨hb, rfl, hr⟩ := h
    have ih := readsC_text t _ hr
    show chunkL (zB true) (begC (zB true) s) ++ layZ (zB true) t = _
    rw [ih, chunk_beg (zB true) (zB true) s hb (toldC_beg s hb)]
    unfold begR
    have e : (bytesOf s).take s.size = bytesOf s := List.take_of_length_le (by rw [bytesOf_length]; exact Nat.le_refl _)
    rw [bytes_ext, e, List.take_append_drop]
/-- Chunks that were read, laid, are the text. -/
theorem chunks_lay (s : ByteArray) (l : List Chk) (h : chunksN s true = (l, 0)) : standB l = true ∧ layT l true = s ∧ sizeL l = s.size := by
  rw [← chunk_all] at h
  obtain ⟨L, e1, e2, e3⟩ := chunk_reads _ _ _ _ (Nat.lt_succ_self _) h
  rw [List.nil_append] at e1
  subst e1
  have hs : standB l = true := by
    unfold standB
    rw [readsC_lay l s e2, decide_eq_true (by simpa using e3 (by simp))]
    rfl
  refine ⟨hs, ?_, readsC_size l s e2⟩
  rw [← lay_text l true hs, readsC_text l s e2]
  show textOf (bytesOf s) = s
  exact textOf_bytesOf s
/-- A chunk that was laid is read as it was. -/
theorem begC_lay (z : Siz) (c : Chk) (t : List Nat) (hz : z.big = true) (hfar : (c.id.toList == z.far.toList) = false) (hid : idB c.id = true) (hb : c.body.size < 4294967296) (ht : ∀ b ∈ t, b < 256) (hp : padOk c (decide (t = [])) = true) (hpt : hasPadB c = false → oddC c = true → t = []) :
    begB z (textOf (chunkL z c ++ t)) = true ∧ begC z (textOf (chunkL z c ++ t)) = c ∧ begR z (textOf (chunkL z c ++ t)) = textOf t := by
  have hid4 := idB_size _ hid
  have htn : toldN z c = (c.body.size : Int) := by unfold toldN; rw [hfar]; rfl
  have htt : toldT z c = beT (c.body.size : Int) 4 := by unfold toldT; rw [hz, toT_true, htn]
  have hts : (toldT z c).size = 4 := by rw [htt]; exact beT_four _ (by omega) (by omega)
  have hlp : ∀ b ∈ (if hasPadB c then [c.pad.toNat] else []), b < 256 := fun b hbm => by
    cases q : hasPadB c
    · rw [q] at hbm
      cases hbm
    · rw [q] at hbm
      have := pad_range c (decide (t = [])) (by rw [layOk_eq, hid, hp]; rfl) q
      have e : b = c.pad.toNat := by simpa using hbm
      omega
  have hall : ∀ b ∈ chunkL z c ++ t, b < 256 := fun b hbm => by
    unfold chunkL at hbm
    rcases List.mem_append.1 hbm with hbm | hbm
    · rcases List.mem_append.1 hbm with hbm | hbm
      · rcases List.mem_append.1 hbm with hbm | hbm
        · rcases List.mem_append.1 hbm with hbm | hbm
          · exact bytesOf_lt _ b hbm
          · exact bytesOf_lt _ b hbm
        · exact bytesOf_lt _ b hbm
      · exact hlp b hbm
    · exact ht b hbm
  have hbs := bytesOf_textOf _ hall
  generalize hS : textOf (chunkL z c ++ t) = S at *
  have hbs2 : bytesOf S = bytesOf c.id ++ (bytesOf (toldT z c) ++ (bytesOf c.body ++ ((if hasPadB c then [c.pad.toNat] else []) ++ t))) := by
    rw [hbs]
    unfold chunkL
    simp only [List.append_assoc]
  have hlen : S.size = 8 + c.body.size + ((if hasPadB c then [c.pad.toNat] else []).length + t.length) := by
    rw [← bytesOf_length S, hbs2]
    simp only [List.length_append, bytesOf_length]
    omega
  have x1 : S.extract 0 4 = c.id := by
    apply bytes_inj
    rw [bytes_ext, hbs2, List.drop_zero, List.take_left' (by rw [bytesOf_length]; exact hid4)]
  have d4 : (bytesOf S).drop 4 = bytesOf (toldT z c) ++ (bytesOf c.body ++ ((if hasPadB c then [c.pad.toNat] else []) ++ t)) := by
    rw [hbs2, List.drop_left' (by rw [bytesOf_length]; exact hid4)]
  have d8 : (bytesOf S).drop 8 = bytesOf c.body ++ ((if hasPadB c then [c.pad.toNat] else []) ++ t) := by
    have : (bytesOf S).drop 8 = ((bytesOf S).drop 4).drop 4 := by rw [List.drop_drop]
    rw [this, d4, List.drop_left' (by rw [bytesOf_length]; exact hts)]
  have dn : (bytesOf S).drop (8 + c.body.size) = (if hasPadB c then [c.pad.toNat] else []) ++ t := by
    have : (bytesOf S).drop (8 + c.body.size) = ((bytesOf S).drop 8).drop c.body.size := by rw [List.drop_drop]
    rw [this, d8, List.drop_left' (by rw [bytesOf_length])]
  have x2 : S.extract 4 8 = toldT z c := by
    apply bytes_inj
    rw [bytes_ext, List.drop_take, d4, List.take_left' (by rw [bytesOf_length]; exact hts)]
  have x3 : S.extract 8 (8 + c.body.size) = c.body := by
    apply bytes_inj
    rw [bytes_ext, List.drop_take, d8, Nat.add_sub_cancel_left, List.take_left' (by rw [bytesOf_length])]
  have hln : lenZ z S = (c.body.size : Int) := by
    unfold lenZ lenM
    rw [x1, x2, hfar, hz, fromN_true, htt, sz_be4 _ (by omega) (by omega)]
    rfl
  have hB : begB z S = true := by
    unfold begB
    rw [x1, hid, hln, decide_eq_true (by omega), decide_eq_true (by omega), decide_eq_true (by omega)]
    rfl
  have hodd : oddC c = decide (c.body.size % 2 = 1) := rfl
  have hpad : padC S c.body.size = c.pad := by
    unfold padC
    by_cases ho : c.body.size % 2 = 1
    · rw [decide_eq_true ho] at hodd
      rw [if_pos ho]
      cases q : hasPadB c
      · have hte := hpt q hodd
        rw [q, hte] at hlen
        have hpm : c.pad = -1 := by
          unfold hasPadB at q
          rw [hodd] at q
          simpa using q
        rw [if_neg (by simp at hlen; omega), hpm]
      · rw [q] at hlen dn
        have hr := pad_range c (decide (t = [])) (by rw [layOk_eq, hid, hp]; rfl) q
        rw [if_pos (by simp at hlen; omega)]
        have : (bytesOf S).getD (8 + c.body.size) 0 = c.pad.toNat := by
          rw [List.getD_eq_getElem?_getD, ← Nat.add_zero (8 + c.body.size), ← List.getElem?_drop, dn]
          rfl
        rw [this]
        omega
    · rw [decide_eq_false ho] at hodd
      rw [if_neg ho]
      rw [padOk_even _ _ hodd] at hp
      have := eq_of_beq hp
      exact this.symm
  refine ⟨hB, ?_, ?_⟩
  · rw [begC_eq z S _ hln, x1, x3, hpad]
  · unfold begR
    rw [begN_eq z S _ hln]
    apply bytes_inj
    rw [bytes_ext, List.take_of_length_le (by rw [bytesOf_length]; exact Nat.le_refl _), bytesOf_textOf _ ht]
    have key : 8 + c.body.size + (if c.body.size % 2 = 1 ∧ 8 + c.body.size < S.size then 1 else 0) = 8 + c.body.size + (if hasPadB c then [c.pad.toNat] else []).length := by
      congr 1
      cases q : hasPadB c
      · by_cases ho : c.body.size % 2 = 1
        · rw [decide_eq_true ho] at hodd
          have hte := hpt q hodd
          rw [q, hte] at hlen
          rw [if_neg (fun w => by simp at hlen; omega)]
          rfl
        · rw [if_neg (fun w => ho w.1)]
          rfl
      · rw [q] at hlen
        have ho : c.body.size % 2 = 1 := by
          unfold hasPadB at q
          have := (Bool.and_eq_true_iff.1 q).1
          rw [hodd] at this
          exact of_decide_eq_true this
        rw [if_pos ⟨ho, by simp at hlen; omega⟩]
        rfl
    rw [key]
    have : (bytesOf S).drop (8 + c.body.size + (if hasPadB c then [c.pad.toNat] else []).length) = ((bytesOf S).drop (8 + c.body.size)).drop (if hasPadB c then [c.pad.toNat] else []).length := by rw [List.drop_drop]
    rw [this, dn, List.drop_left' rfl]

theorem layZ_lt (z : Siz) : ∀ (l : List Chk), layAll l = true → ∀ b ∈ layZ z l, b < 256
  | [], _, b, hb => by cases hb
  | c :: t, h, b, hb => by
    have h1 : ∃ last, layOk c last = true := by
      cases t with
      | nil => exact ⟨true, h⟩
      | cons d t => exact ⟨false, (Bool.and_eq_true_iff.1 h).1⟩
    have h2 : layAll t = true := by
      cases t with
      | nil => rfl
      | cons d t => exact (Bool.and_eq_true_iff.1 h).2
    obtain ⟨last, hl⟩ := h1
    have e : layZ z (c :: t) = chunkL z c ++ layZ z t := by unfold layZ; rw [List.flatMap_cons]
    rw [e] at hb
    rcases List.mem_append.1 hb with q | q
    · unfold chunkL at q
      rcases List.mem_append.1 q with q | q
      · rcases List.mem_append.1 q with q | q
        · rcases List.mem_append.1 q with q | q
          · exact bytesOf_lt _ b q
          · exact bytesOf_lt _ b q
        · exact bytesOf_lt _ b q
      · cases hp : hasPadB c
        · rw [hp] at q
          cases q
        · rw [hp] at q
          have := pad_range c last hl hp
          have e : b = c.pad.toNat := by simpa using q
          omega
    · exact layZ_lt z t h2 b q
theorem chunkL_pos (z : Siz) (c : Chk) (h : idB c.id = true) : 4 ≤ (chunkL z c).length := by
  unfold chunkL
  simp only [List.length_append, bytesOf_length]
  have := idB_size _ h
  omega
/-- What was laid is read as it was. -/
theorem lay_reads : ∀ (L acc : List Chk) (n : Nat), layAll L = true → (∀ c ∈ L, c.body.size < 4294967296) → acc.length + L.length ≤ 1024 → (layZ (zB true) L).length < n → chunkN n (zB true) acc (textOf (layZ (zB true) L)) = (acc ++ L, 0)
  | [], acc, 0, _, _, _, hn => absurd hn (Nat.not_lt_zero _)
  | [], acc, n + 1, _, _, _, _ => by rw [chunkN_end _ _ _ _ (by rfl), List.append_nil]
  | c :: t, acc, 0, _, _, _, hn => absurd hn (Nat.not_lt_zero _)
  | c :: t, acc, n + 1, h, hb, hl, hn => by
    have h1 : layOk c (decide (layZ (zB true) t = [])) = true := by
      cases t with
      | nil => exact h
      | cons d t =>
        have hd : layAll (d :: t) = true := (Bool.and_eq_true_iff.1 h).2
        have hdi : idB d.id = true := by
          have : ∃ last, layOk d last = true := by
            cases t with
            | nil => exact ⟨true, hd⟩
            | cons x t => exact ⟨false, (Bool.and_eq_true_iff.1 hd).1⟩
          obtain ⟨last, q⟩ := this
          rw [layOk_eq] at q
          exact (Bool.and_eq_true_iff.1 q).1
        have e : layZ (zB true) (d :: t) = chunkL (zB true) d ++ layZ (zB true) t := by unfold layZ; rw [List.flatMap_cons]
        have hp := chunkL_pos (zB true) d hdi
        rw [decide_eq_false (fun q => by rw [e] at q; have := congrArg List.length q; rw [List.length_append, List.length_nil] at this; omega)]
        exact (Bool.and_eq_true_iff.1 h).1
    have h2 : layAll t = true := by
      cases t with
      | nil => rfl
      | cons d t => exact (Bool.and_eq_true_iff.1 h).2
    have h1' := h1
    rw [layOk_eq] at h1'
    obtain ⟨hid, hpad⟩ := Bool.and_eq_true_iff.1 h1'
    have e : layZ (zB true) (c :: t) = chunkL (zB true) c ++ layZ (zB true) t := by unfold layZ; rw [List.flatMap_cons]
    rw [e] at hn ⊢
    have hlt := layZ_lt (zB true) t h2
    obtain ⟨b1, b2, b3⟩ := begC_lay (zB true) c (layZ (zB true) t) rfl (none_ne _ (idB_size _ hid)) hid (hb c (List.mem_cons_self ..)) hlt hpad (fun q1 q2 => by
      have hpm : c.pad = -1 := by
        unfold hasPadB at q1
        rw [q2] at q1
        simpa using q1
      rw [padOk_none _ _ q2 hpm] at hpad
      exact of_decide_eq_true hpad)
    have hpos := chunkL_pos (zB true) c hid
    rw [List.length_append] at hn
    rw [chunkN_step _ _ _ _ (by have := (beg_parts _ _ b1).1; omega) b1 (by simp at hl; omega), b2, b3]
    rw [lay_reads t (acc ++ [c]) n h2 (fun d hd => hb d (List.mem_cons_of_mem _ hd)) (by simp at hl ⊢; omega) (by omega)]
    rw [List.append_assoc]
    rfl
theorem lay_chunks (L : List Chk) (h : standB L = true) (hb : ∀ c ∈ L, c.body.size < 4294967296) : chunksN (layT L true) true = (L, 0) := by
  obtain ⟨h1, h2⟩ := Bool.and_eq_true_iff.1 h
  have h1 := of_decide_eq_true h1
  rw [← chunk_all, ← lay_text L true h]
  show chunkN _ (zB true) [] (textOf (layZ (zB true) L)) = _
  rw [lay_reads L [] _ h2 hb (by simpa using h1) (by rw [textOf_size]; exact Nat.lt_succ_self _)]
  rfl
theorem lay_size (L : List Chk) (h : standB L = true) (hb : ∀ c ∈ L, c.body.size < 4294967296) : (layT L true).size = sizeL L := by
  exact (chunks_lay _ L (lay_chunks L h hb)).2.2.symm

end Go.Proofs.YtaepgjheknkojaaGreat

namespace Go.Proofs.YtaepgjheknkojaaGreat
open Go.RowKit
set_option linter.unusedSimpArgs false
set_option linter.unusedVariables false

/-- A box: a block of cells that were laid for one variable. -/
def Box (b : Nat) (d : Array Value) (T : TypeId) (w : World) : Prop := w.heap[b]? = some (.cells d T (0, 0))
section
variable {b : Nat} {d : Array Value} {T : TypeId} {w w' : World}
theorem Box.next (h : Box b d T w) (hB : Below w.heap.size w w') : Box b d T w' := (hB.block _ (lt_of_block h)).trans h
theorem Box.lt (h : Box b d T w) : b < w.heap.size := lt_of_block h
theorem Box.c (h : Box b d T w) (j : Nat) (v : Value) (hv : d[j]? = some v) : w.cell? ⟨b, j, none⟩ = some v := by rw [cell_of_row _ _ _ _ _ _ h]; exact hv
theorem Box.z (h : Box b d T w) (j : Nat) : w.frozen? ⟨b, j, none⟩ = false := by
  have : w.heap[b]? = _ := h
  simp [World.frozen?, this]
theorem Box.set (h : Box b d T w) (j : Nat) (v : Value) : Box b (d.setIfInBounds j v) T (w.setCell ⟨b, j, none⟩ v) := block_set _ _ _ _ _ _ h
theorem Box.other (h : Box b d T w) {a : Addr} (ha : b ≠ a.block) (v : Value) : Box b d T (w.setCell a v) := (Below.heap_setCell _ _ _ _ ha).trans h
theorem Box.new (w : World) (d : Array Value) (T : TypeId) : Box w.heap.size d T (w.alloc (.cells d T)) := heap_alloc_new w _
theorem Box.new2 (w : World) (o : Obj) (d : Array Value) (T : TypeId) : Box (w.heap.size + 1) d T ((w.alloc o).alloc (.cells d T)) := by
  rw [← show (w.alloc o).heap.size = w.heap.size + 1 from by simp]
  exact heap_alloc_new _ _
theorem belA (w : World) (o : Obj) : Below w.heap.size w (w.alloc o) := (Below.refl _ _).alloc (Nat.le_refl _) _
theorem bel2 (w : World) (o1 o2 : Obj) : Below w.heap.size w ((w.alloc o1).alloc o2) := ((Below.refl _ _).alloc (Nat.le_refl _) _).alloc (by simp) _
theorem belD (w : World) : Below w.heap.size w w.drew := ⟨rfl, rfl, rfl, Nat.le_refl _, fun _ _ => rfl⟩
theorem below_next {n : Nat} {w0 w w' : World} (h : Below n w0 w) (hB : Below w.heap.size w w') (hn : n ≤ w.heap.size) : Below n w0 w' := h.trans (hB.mono hn)
end
theorem below_on {w0 w w' : World} (h : Below w0.heap.size w0 w) (hB : Below w.heap.size w w') : Below w0.heap.size w0 w' := h.trans (hB.mono h.size)
theorem res_two_cell {fn : Func} {p t : Tmp} {ty : TypeId} (h : fn.results = #[.cell p ty, .tmp t]) (tmps : Array Value) (P : Program) (w : World) :
    (results fn tmps).run P w = ((asAddr (tmps.getD p undef)).run P w).andThen fun a w₁ => ((loadVar ty a).run P w₁).andThen fun x w₂ => .ok (.tuple #[x, tmps.getD t undef]) w₂ := by
  simp only [results, h]
  simp [Sem.run_bind, Result.andThen]
/-- New memory. -/
def FreshC (B : Nat) (ao : Option Addr) : Prop := ∀ b off, ao = some ⟨b, off, none⟩ → B ≤ b
theorem FreshC.none (B : Nat) : FreshC B none := fun _ _ h => by cases h
theorem ChksAt.own2 {w : World} {B : Nat} {v : Value} {l : List Chk} (h : w.ownsRow B 55 3 v l.length (ccells l)) : ∃ ao cap, v = .slice ao l.length cap ∧ ChksAt w ao l ∧ FreshC B ao := by
  obtain ⟨ao, cap, e, hat⟩ := ChksAt.own h
  refine ⟨ao, cap, e, hat, fun b off q => ?_⟩
  subst q
  exact (h.lt b (by rw [e]; rfl)).1

/-- Chunks that a call owns. -/
def OwnC (B : Nat) (ao : Option Addr) (cap : Nat) (l : List Chk) (w : World) : Prop := w.ownsRow B 55 3 (.slice ao l.length cap) l.length (ccells l)
theorem OwnC.at {B : Nat} {ao : Option Addr} {cap : Nat} {l : List Chk} {w : World} (h : OwnC B ao cap l w) : ChksAt w ao l := by
  obtain ⟨ao', cap', e, hat⟩ := ChksAt.own h
  cases e
  exact hat
theorem OwnC.fresh {B : Nat} {ao : Option Addr} {cap : Nat} {l : List Chk} {w : World} (h : OwnC B ao cap l w) : FreshC B ao := by
  obtain ⟨ao', cap', e, _, hf⟩ := ChksAt.own2 h
  cases e
  exact hf
theorem OwnC.next {B : Nat} {ao : Option Addr} {cap : Nat} {l : List Chk} {w w' : World} (h : OwnC B ao cap l w) (hB : Below w.heap.size w w') : OwnC B ao cap l w' := owns_below h hB
theorem OwnC.mono {B B' : Nat} {ao : Option Addr} {cap : Nat} {l : List Chk} {w : World} (h : OwnC B ao cap l w) (hb : B' ≤ B) : OwnC B' ao cap l w := World.ownsRow.mono h hb
theorem OwnC.other {B : Nat} {ao : Option Addr} {cap : Nat} {l : List Chk} {w : World} (h : OwnC B ao cap l w) {a : Addr} (ha : a.block < B) (v : Value) : OwnC B ao cap l (w.setCell a v) := by
  refine ⟨h.1, ?_⟩
  rcases h.2 with q | ⟨g, c, cur, e, hb, hg, rest⟩
  · exact Or.inl q
  · exact Or.inr ⟨g, c, cur, e, hb, (Below.heap_setCell _ _ _ _ (by omega)).trans hg, rest⟩
/-- Where they lie. -/
theorem OwnC.spot {B : Nat} {ao : Option Addr} {cap : Nat} {l : List Chk} {w : World} (h : OwnC B ao cap l w) (i : Nat) (c : Chk) (hi : l[i]? = some c) :
    ∃ g, ao = some ⟨g, 0, none⟩ ∧ B ≤ g ∧ g < w.heap.size ∧ w.cell? ⟨g, i * 3, none⟩ = some (.string c.id) ∧ w.cell? ⟨g, i * 3 + 1, none⟩ = some (.string c.body) ∧ w.cell? ⟨g, i * 3 + 2, none⟩ = some (.int .i64 c.pad) ∧ (∀ j, w.frozen? ⟨g, j, none⟩ = false) := by
  have hl := (List.getElem?_eq_some_iff.1 hi).1
  rcases h.2 with ⟨_, e0⟩ | ⟨g, c', cur, e, hb, hg, _⟩
  · omega
  · cases e
    obtain ⟨c0, c1, c2⟩ := ccells_get l i c hi
    have hr : w.ownsRow B 55 3 (.slice (some ⟨g, 0, none⟩) l.length cap) l.length (ccells l) := h
    exact ⟨g, rfl, hb, lt_of_block hg, by rw [hr.cellAt (i * 3) (by omega), c0], by rw [hr.cellAt (i * 3 + 1) (by omega), c1], by rw [hr.cellAt (i * 3 + 2) (by omega), c2], fun j => hr.frozenAt j⟩
theorem ccells_set : ∀ (l : List Chk) (i : Nat) (c : Chk) (x : ByteArray), l[i]? = some c → (ccells l).set (i * 3 + 1) (.string x) = ccells (l.set i ⟨c.id, x, c.pad⟩)
  | [], i, c, x, h => by cases h
  | d :: t, 0, c, x, h => by
    cases h
    rfl
  | d :: t, i + 1, c, x, h => by
    have ih := ccells_set t i c x h
    have e : ccells (d :: t) = .string d.id :: .string d.body :: .int .i64 d.pad :: ccells t := rfl
    have e2 : ccells (d :: t.set i ⟨c.id, x, c.pad⟩) = .string d.id :: .string d.body :: .int .i64 d.pad :: ccells (t.set i ⟨c.id, x, c.pad⟩) := rfl
    rw [List.set_cons_succ, e, e2, ← ih, show (i + 1) * 3 + 1 = i * 3 + 1 + 1 + 1 + 1 from by omega]
    rfl
/-- A chunk's Body is written over. -/
theorem OwnC.set {B g : Nat} {cap : Nat} {l : List Chk} {w : World} (h : OwnC B (some ⟨g, 0, none⟩) cap l w) (i : Nat) (c : Chk) (hi : l[i]? = some c) (x : ByteArray) :
    OwnC B (some ⟨g, 0, none⟩) cap (l.set i ⟨c.id, x, c.pad⟩) (w.setCell ⟨g, i * 3 + 1, none⟩ (.string x)) := by
  have hr : w.ownsRow B 55 3 (.slice (some ⟨g, 0, none⟩) l.length cap) l.length (ccells l) := h
  have h2 := hr.stored (i * 3 + 1) (.string x)
  rw [ccells_set l i c x hi] at h2
  unfold OwnC
  rw [List.length_set]
  exact h2.1
set_option maxRecDepth 20000 in
set_option maxHeartbeats 6400000 in
theorem chunks_own (s : ByteArray) (big : Bool) (w : World) (hs : s.size ≤ 140737488351232) :
    Calls Tryz.prog 76 #[.string s, .bool big] w fun e w' => ∃ ao cap, e = .returned (.tuple #[.slice ao (chunkN (s.size + 1) ⟨big, ⟨#[]⟩, 0⟩ [] s).1.length cap, .int .i64 (chunkN (s.size + 1) ⟨big, ⟨#[]⟩, 0⟩ [] s).2]) ∧ OwnC w.heap.size ao cap (chunkN (s.size + 1) ⟨big, ⟨#[]⟩, 0⟩ [] s).1 w' ∧ Below w.heap.size w w' := by
  have HG0 : Hid (Gc w noS [] w) := ⟨World.ownsRow_nil _ _ _ _, Below.refl _ _⟩
  obtain ⟨R, hR⟩ : ∃ R, chunkN (s.size + 1) ⟨big, ⟨#[]⟩, 0⟩ [] s = R := ⟨_, rfl⟩
  have HR0 : Hid (R = chunkN (s.size + 1) ⟨big, ⟨#[]⟩, 0⟩ [] s) := hR.symm
  rw [hR]
  clear hR
  obtain ⟨iK, hK0, hK1, hK2, hK3⟩ := info_parts5 infoK3
  have HIK : Hid (Tryz.prog.info? 55 = some iK ∧ iK.zero = some (.agg zeroK) ∧ iK.size = 3 ∧ iK.bytes = 40) := ⟨hK0, hK1, hK2, hK3⟩
  clear hK0 hK1 hK2 hK3
  go_enter Tryz.func76, Tryz.ntmps76
  go_wp2_with fail
  refine wp_scope_round 0 (fun a' wr => ∃ (s' : ByteArray) (g : Value) (acc : List Chk) (fuel : Nat) (u7 u8 u9 u10 u11 u12 u13 u14 u15 u16 u17 u18 u19 u20 u21 u22 u23 u24 u25 u26 u27 u28 u29 u30 u31 : Value), a' = { tmps := #[.string s', .bool big, undef, undef, .slice none 0 0, .int .i64 0, g, u7, u8, u9, u10, u11, u12, u13, u14, u15, u16, u17, u18, u19, u20, u21, u22, u23, u24, u25, u26, u27, u28, u29, u30, u31], defers := [] } ∧ s'.size ≤ 140737488351232 ∧ s'.size ≤ fuel ∧ acc.length ≤ 1024 ∧ R = chunkN (fuel + 1) ⟨big, ⟨#[]⟩, 0⟩ acc s' ∧ Gc w g acc wr) (fun a' _ => strSz (a'.tmps.getD 0 undef)) rfl ?_ ?_
  · rintro a' wr ⟨s', g, acc, fuel, u7, u8, u9, u10, u11, u12, u13, u14, u15, u16, u17, u18, u19, u20, u21, u22, u23, u24, u25, u26, u27, u28, u29, u30, u31, rfl, hs', hf, hal, hR, hg⟩
    obtain ⟨va, vc, rfl⟩ := hg.shape
    have HR : Hid (R = chunkN (fuel + 1) ⟨big, ⟨#[]⟩, 0⟩ acc s') := hR
    have HG : Hid (Gc w (.slice va acc.length vc) acc wr) := hg
    clear hR hg HR0 HG0
    by_cases h0 : s'.size = 0
    · have he := isEmpty_true s' h0
      have HE : Hid (R = (acc, 0)) := HR.out.trans (chunkN_end _ _ _ _ h0)
      have HAT : Hid (OwnC w.heap.size va vc acc wr) := HG.out.own
      have HBL : Hid (Below w.heap.size w wr) := HG.out.below
      clear HG HR
      go_wp2_with fail
      simp only [Exit.jump]
      go_ret2
      exact ⟨va, vc, by rw [HE.out]; rfl, by rw [HE.out]; exact HAT.out, HBL.out⟩
    · have he := isEmpty_false s' (by omega)
      cases hb : begB ⟨big, ⟨#[]⟩, 0⟩ s'
      · have ko := begin_no ⟨big, ⟨#[]⟩, 0⟩ s' (acc.length : Int) wr hs' hb
        have HE : Hid (R = ([], 2)) := HR.out.trans (chunkN_bad _ _ _ _ h0 hb)
        clear HR hb
        go_wp2_with fail
        refine ko.mono ?_
        rintro e w2 ⟨rfl, hB⟩
        have HB : Hid (Below w.heap.size w w2) := HG.out.below.trans (hB.mono HG.out.below.size)
        clear ko hB
        go_wp2_with fail
        simp only [Exit.jump]
        go_ret2
        exact ⟨none, 0, by rw [HE.out]; rfl, by rw [HE.out]; exact World.ownsRow_nil _ _ _ _, HB.out.alloc HB.out.size _⟩
      · by_cases h1024 : 1024 ≤ acc.length
        · have ko := begin_full ⟨big, ⟨#[]⟩, 0⟩ s' (acc.length : Int) wr hs' hb (by omega)
          have HE : Hid (R = ([], 5)) := HR.out.trans (chunkN_many _ _ _ _ h0 hb h1024)
          clear HR hb
          go_wp2_with fail
          refine ko.mono ?_
          rintro e w2 ⟨rfl, hB⟩
          have HB : Hid (Below w.heap.size w w2) := HG.out.below.trans (hB.mono HG.out.below.size)
          clear ko hB
          go_wp2_with fail
          simp only [Exit.jump]
          go_ret2
          exact ⟨none, 0, by rw [HE.out]; rfl, by rw [HE.out]; exact World.ownsRow_nil _ _ _ _, HB.out.alloc HB.out.size _⟩
        · have ko := begin_yes ⟨big, ⟨#[]⟩, 0⟩ s' (acc.length : Int) wr hs' hb (by omega)
          have HE : Hid (R = chunkN fuel ⟨big, ⟨#[]⟩, 0⟩ (acc ++ [begC ⟨big, ⟨#[]⟩, 0⟩ s']) (begR ⟨big, ⟨#[]⟩, 0⟩ s')) := HR.out.trans (chunkN_step _ _ _ _ h0 hb h1024)
          have hrs := begR_size ⟨big, ⟨#[]⟩, 0⟩ s' hb
          have hcs := begC_sizes ⟨big, ⟨#[]⟩, 0⟩ s'
          have kw := own_spec (begC ⟨big, ⟨#[]⟩, 0⟩ s') (by omega) (by omega)
          clear HR hb hcs
          generalize begC ⟨big, ⟨#[]⟩, 0⟩ s' = C at *
          generalize begR ⟨big, ⟨#[]⟩, 0⟩ s' = X at *
          obtain ⟨fuel', rfl⟩ : ∃ f', fuel = f' + 1 := ⟨fuel - 1, by omega⟩
          go_wp2_with fail
          refine ko.mono ?_
          rintro e w2 ⟨rfl, hB⟩
          have HG2 : Hid (Gc w (.slice va acc.length vc) acc (w2.alloc (.cells (chkC C) 55))) := (HG.out.next hB).next ((Below.refl _ _).alloc (Nat.le_refl _) _)
          clear ko hB HG
          go_wp2_with fail
          refine (kw _).mono ?_
          rintro e w4 ⟨rfl, hB4⟩
          have HG4 : Hid (Gc w (.slice va acc.length vc) acc (w4.alloc (.cells (chkC C) 55))) := (HG2.out.next hB4).next ((Below.refl _ _).alloc (Nat.le_refl _) _)
          have HNW : Hid (∀ j u, [Value.string C.id, .string C.body, .int .i64 C.pad][j]? = some u → (w4.alloc (.cells (chkC C) 55)).cell? ((⟨w4.heap.size, 0, none⟩ : Addr).add j) = some u) := fun j u hj => three_cells (w := w4) (e := 55) j u hj
          clear kw hB4 HG2
          go_wp2_with (at_builtin; refine wpList_append_row _ rfl (.tmp 26) (.tmp 29) 25 rfl w.heap.size 55 iK (.agg zeroK) 3 40 Tryz.underlying25 HIK.out.1 HIK.out.2.1 HIK.out.2.2.1 HIK.out.2.2.2 rfl (by decide) (.slice va acc.length vc) acc.length _ rfl HG4.out.own ⟨w4.heap.size, 0, none⟩ 1 1 [.string C.id, .string C.body, .int .i64 C.pad] rfl rfl HNW.out (by simp [Value.oneCell']) (by simp only [maxLen]; omega) (by omega) HG4.out.below.size ?_; intro v6 w6 ho6 hg6)
          have HG6 : Hid (Gc w v6 (acc ++ [C]) w6) := HG4.out.push ho6.out hg6.out
          go_step3
          refine ⟨rfl, ⟨X, v6, acc ++ [C], fuel', _, _, _, _, _, _, _, _, _, _, _, _, _, _, _, _, _, _, _, _, _, _, _, _, _, rfl, by omega, by omega, by rw [List.length_append]; simp; omega, HE.out, HG6.out⟩, ?_⟩
          show X.size < s'.size
          omega
  · intro hp
    go_wp2_with fail
    go_step3
    rename_i hgo
    refine hgo _ _ ?_
    refine hp _ _ ⟨s, noS, [], s.size, _, _, _, _, _, _, _, _, _, _, _, _, _, _, _, _, _, _, _, _, _, _, _, _, _, rfl, hs, Nat.le_refl _, by simp, HR0.out, HG0.out⟩

end Go.Proofs.YtaepgjheknkojaaGreat
