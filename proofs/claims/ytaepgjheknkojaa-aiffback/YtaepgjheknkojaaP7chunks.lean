/- Own text: chunks with the highest byte first: laid and read, plain laws. -/
import Derived.Test.YtaepgjheknkojaaG28x
import Derived.Test.YtaepgjheknkojaaQ6lay
namespace Go.Proofs.Ytaepgjheknkojaa
open Go.RowKit
set_option linter.unusedSimpArgs false
set_option linter.unusedVariables false

theorem fromN_true (x : ByteArray) : fromN x true = fromBe (bytesOf x) := rfl
theorem beT_size_eq (m k : Nat) (h1 : 1 ≤ k) (h8 : k ≤ 8) (h : m < 256 ^ k) : (beT (m : Int) (k : Int)).size = k := by
  rw [beT_nat m k (fits_of_nat m k h1 h8 h), textOf_size, highL_length]
theorem beT_two (n : Int) (h0 : 0 ≤ n) (h1 : n < 65536) : (beT n 2).size = 2 := by
  have := beT_size_eq n.toNat 2 (by decide) (by decide) (by omega)
  rwa [show ((n.toNat : Nat) : Int) = n from by omega] at this
theorem beT_four (n : Int) (h0 : 0 ≤ n) (h1 : n < 4294967296) : (beT n 4).size = 4 := by
  have := beT_size_eq n.toNat 4 (by decide) (by decide) (by omega)
  rwa [show ((n.toNat : Nat) : Int) = n from by omega] at this
theorem sz_be2 (n : Int) (h0 : 0 ≤ n) (h1 : n < 65536) : fromBe (bytesOf (beT n 2)) = n := by
  obtain ⟨m, rfl⟩ : ∃ m : Nat, n = (m : Int) := ⟨n.toNat, by omega⟩
  have hf := fits_of_nat m 2 (by decide) (by decide) (by omega)
  have e := beT_nat m 2 hf
  rw [show ((2 : Nat) : Int) = 2 from rfl] at e
  rw [e, bytesOf_textOf _ (highL_lt m 2), fromBe_of _ (by rw [highL_length]; decide) (by rw [val_highL]; omega), val_highL]
  omega
theorem sz_be4 (n : Int) (h0 : 0 ≤ n) (h1 : n < 4294967296) : fromBe (bytesOf (beT n 4)) = n := by
  obtain ⟨m, rfl⟩ : ∃ m : Nat, n = (m : Int) := ⟨n.toNat, by omega⟩
  have hf := fits_of_nat m 4 (by decide) (by decide) (by omega)
  have e := beT_nat m 4 hf
  rw [show ((4 : Nat) : Int) = 4 from rfl] at e
  rw [e, bytesOf_textOf _ (highL_lt m 4), fromBe_of _ (by rw [highL_length]; decide) (by rw [val_highL]; omega), val_highL]
  omega
/-- Four bytes as a number, and back. -/
theorem be_from4 (x : ByteArray) (h : x.size = 4) : beT (fromBe (bytesOf x)) 4 = x := by
  have hl : (bytesOf x).length = 4 := by rw [bytesOf_length, h]
  have hlt := bytesOf_lt x
  have h1 := val_lt _ hlt
  rw [hl] at h1
  have e : fromBe (bytesOf x) = ((val (bytesOf x) : Nat) : Int) := fromBe_of _ (by omega) (by omega)
  have hf := fits_of_nat (val (bytesOf x)) 4 (by decide) (by decide) h1
  have e2 := beT_nat (val (bytesOf x)) 4 hf
  rw [e]
  refine e2.trans ?_
  rw [high_val _ 4 hl hlt, textOf_bytesOf]
/-- How a text was read. -/
def ReadsC : List Chk → ByteArray → Prop
  | [], s => s.size = 0
  | c :: t, s => begB (zB true) s = true ∧ c = begC (zB true) s ∧ ReadsC t (begR (zB true) s)
theorem chunk_reads : ∀ (n : Nat) (acc : List Chk) (s : ByteArray) (l : List Chk), s.size < n → chunkN n (zB true) acc s = (l, 0) →
    ∃ L, l = acc ++ L ∧ ReadsC L s ∧ (acc.length ≤ 1024 → acc.length + L.length ≤ 1024)
  | 0, acc, s, l, h, _ => absurd h (Nat.not_lt_zero _)
  | n + 1, acc, s, l, h, he => by
    by_cases h0 : s.size = 0
    · rw [chunkN_end _ _ _ _ h0] at he
      have he : acc = l := congrArg Prod.fst he
      exact ⟨[], by rw [he, List.append_nil], h0, fun q => q⟩
    · cases hb : begB (zB true) s
      · rw [chunkN_bad _ _ _ _ h0 hb] at he
        have := congrArg Prod.snd he
        cases this
      · by_cases hl : 1024 ≤ acc.length
        · rw [chunkN_many _ _ _ _ h0 hb hl] at he
          have := congrArg Prod.snd he
          cases this
        · rw [chunkN_step _ _ _ _ h0 hb hl] at he
          have hr := begR_size (zB true) s hb
          obtain ⟨L, e1, e2, e3⟩ := chunk_reads n _ _ l (by omega) he
          refine ⟨begC (zB true) s :: L, by rw [e1, List.append_assoc]; rfl, ⟨hb, rfl, e2⟩, fun _ => ?_⟩
          have := e3 (by rw [List.length_append]; simp; omega)
          rw [List.length_append] at this
          simp at this ⊢
          omega
theorem readsC_size : ∀ (L : List Chk) (s : ByteArray), ReadsC L s → sizeL L = s.size
  | [], s, h => by
    have h : s.size = 0 := h
    rw [h]
    rfl
  | c :: t, s, h => by
    obtain ⟨hb, rfl, hr⟩ := h
    have ih := readsC_size t _ hr
    have e : sizeL (begC (zB true) s :: t) = sizeC (begC (zB true) s) + sizeL t := by simp [sizeL]
    have hN := begN_le (zB true) s hb
    rw [e, ih, sizeC_beg (zB true) s hb]
    unfold begR
    rw [ext_size _ _ _ hN.2 (Nat.le_refl _)]
    omega
theorem readsC_nil (t : List Chk) (s : ByteArray) (h : ReadsC t s) (h0 : s.size = 0) : t = [] := by
  cases t with
  | nil => rfl
  | cons c t =>
    have := (beg_parts (zB true) s h.1).1
    omega
theorem readsC_lay : ∀ (L : List Chk) (s : ByteArray), ReadsC L s → layAll L = true
  | [], s, h => rfl
  | [c], s, h => by
    obtain ⟨hb, rfl, _⟩ := h
    exact padOk_beg (zB true) s hb true (fun _ => rfl)
  | c :: d :: t, s, h => by
    obtain ⟨hb, rfl, hr⟩ := h
    show (layOk _ false && layAll (d :: t)) = true
    rw [readsC_lay (d :: t) _ hr, Bool.and_true]
    refine padOk_beg (zB true) s hb false (fun h0 => ?_)
    cases readsC_nil _ _ hr h0
theorem toldC_beg (s : ByteArray) (hb : begB (zB true) s = true) : toldT (zB true) (begC (zB true) s) = s.extract 4 8 := by
  obtain ⟨h8, hid, n, hn, hle⟩ := beg_parts (zB true) s hb
  have hx : (s.extract 4 8).size = 4 := ext_size _ _ _ (by omega) h8
  have hbs : (begC (zB true) s).body.size = n := by
    rw [begC_eq (zB true) s n hn]
    show (s.extract 8 (8 + n)).size = n
    rw [ext_size _ _ _ (by omega) hle, Nat.add_sub_cancel_left]
  have hci : (begC (zB true) s).id = s.extract 0 4 := by rw [begC_eq (zB true) s n hn]
  have hno := none_ne _ (idB_size _ hid)
  have hl : lenZ (zB true) s = fromBe (bytesOf (s.extract 4 8)) := by
    unfold lenZ lenM
    rw [if_neg (by rw [hno]; decide)]
    rfl
  have ht : toldN (zB true) (begC (zB true) s) = fromBe (bytesOf (s.extract 4 8)) := by
    unfold toldN
    rw [hci, if_neg (by rw [hno]; decide), hbs, ← hl, hn]
  show toT (toldN (zB true) (begC (zB true) s)) true = _
  rw [ht, toT_true, be_from4 _ hx]
theorem readsC_text : ∀ (L : List Chk) (s : ByteArray), ReadsC L s → layZ (zB true) L = bytesOf s
  | [], s, h => by
    have h : s.size = 0 := h
    have : (bytesOf s).length = 0 := by rw [bytesOf_length]; exact h
    rw [List.length_eq_zero_iff.1 this]
    rfl
  | c :: t, s, h => by
    obtain ⟨hb, rfl, hr⟩ := h
    have ih := readsC_text t _ hr
    show chunkL (zB true) (begC (zB true) s) ++ layZ (zB true) t = _
    rw [ih, chunk_beg (zB true) (zB true) s hb (toldC_beg s hb)]
    unfold begR
    have e : (bytesOf s).take s.size = bytesOf s := List.take_of_length_le (by rw [bytesOf_length]; exact Nat.le_refl _)
    rw [bytes_ext, e, List.take_append_drop]
/-- Chunks that were read, laid, are the text. -/
theorem chunks_lay (s : ByteArray) (l : List Chk) (h : chunksN s true = (l, 0)) : standB l = true ∧ layT l true = s ∧ sizeL l = s.size := by
  rw [← chunk_all] at h
  obtain ⟨L, e1, e2, e3⟩ := chunk_reads _ _ _ _ (Nat.lt_succ_self _) h
  rw [List.nil_append] at e1
  subst e1
  have hs : standB l = true := by
    unfold standB
    rw [readsC_lay l s e2, decide_eq_true (by simpa using e3 (by simp))]
    rfl
  refine ⟨hs, ?_, readsC_size l s e2⟩
  rw [← lay_text l true hs, readsC_text l s e2]
  show textOf (bytesOf s) = s
  exact textOf_bytesOf s
/-- A chunk that was laid is read as it was. -/
theorem begC_lay (z : Siz) (c : Chk) (t : List Nat) (hz : z.big = true) (hfar : (c.id.toList == z.far.toList) = false) (hid : idB c.id = true) (hb : c.body.size < 4294967296) (ht : ∀ b ∈ t, b < 256) (hp : padOk c (decide (t = [])) = true) (hpt : hasPadB c = false → oddC c = true → t = []) :
    begB z (textOf (chunkL z c ++ t)) = true ∧ begC z (textOf (chunkL z c ++ t)) = c ∧ begR z (textOf (chunkL z c ++ t)) = textOf t := by
  have hid4 := idB_size _ hid
  have htn : toldN z c = (c.body.size : Int) := by unfold toldN; rw [hfar]; rfl
  have htt : toldT z c = beT (c.body.size : Int) 4 := by unfold toldT; rw [hz, toT_true, htn]
  have hts : (toldT z c).size = 4 := by rw [htt]; exact beT_four _ (by omega) (by omega)
  have hlp : ∀ b ∈ (if hasPadB c then [c.pad.toNat] else []), b < 256 := fun b hbm => by
    cases q : hasPadB c
    · rw [q] at hbm
      cases hbm
    · rw [q] at hbm
      have := pad_range c (decide (t = [])) (by rw [layOk_eq, hid, hp]; rfl) q
      have e : b = c.pad.toNat := by simpa using hbm
      omega
  have hall : ∀ b ∈ chunkL z c ++ t, b < 256 := fun b hbm => by
    unfold chunkL at hbm
    rcases List.mem_append.1 hbm with hbm | hbm
    · rcases List.mem_append.1 hbm with hbm | hbm
      · rcases List.mem_append.1 hbm with hbm | hbm
        · rcases List.mem_append.1 hbm with hbm | hbm
          · exact bytesOf_lt _ b hbm
          · exact bytesOf_lt _ b hbm
        · exact bytesOf_lt _ b hbm
      · exact hlp b hbm
    · exact ht b hbm
  have hbs := bytesOf_textOf _ hall
  generalize hS : textOf (chunkL z c ++ t) = S at *
  have hbs2 : bytesOf S = bytesOf c.id ++ (bytesOf (toldT z c) ++ (bytesOf c.body ++ ((if hasPadB c then [c.pad.toNat] else []) ++ t))) := by
    rw [hbs]
    unfold chunkL
    simp only [List.append_assoc]
  have hlen : S.size = 8 + c.body.size + ((if hasPadB c then [c.pad.toNat] else []).length + t.length) := by
    rw [← bytesOf_length S, hbs2]
    simp only [List.length_append, bytesOf_length]
    omega
  have x1 : S.extract 0 4 = c.id := by
    apply bytes_inj
    rw [bytes_ext, hbs2, List.drop_zero, List.take_left' (by rw [bytesOf_length]; exact hid4)]
  have d4 : (bytesOf S).drop 4 = bytesOf (toldT z c) ++ (bytesOf c.body ++ ((if hasPadB c then [c.pad.toNat] else []) ++ t)) := by
    rw [hbs2, List.drop_left' (by rw [bytesOf_length]; exact hid4)]
  have d8 : (bytesOf S).drop 8 = bytesOf c.body ++ ((if hasPadB c then [c.pad.toNat] else []) ++ t) := by
    have : (bytesOf S).drop 8 = ((bytesOf S).drop 4).drop 4 := by rw [List.drop_drop]
    rw [this, d4, List.drop_left' (by rw [bytesOf_length]; exact hts)]
  have dn : (bytesOf S).drop (8 + c.body.size) = (if hasPadB c then [c.pad.toNat] else []) ++ t := by
    have : (bytesOf S).drop (8 + c.body.size) = ((bytesOf S).drop 8).drop c.body.size := by rw [List.drop_drop]
    rw [this, d8, List.drop_left' (by rw [bytesOf_length])]
  have x2 : S.extract 4 8 = toldT z c := by
    apply bytes_inj
    rw [bytes_ext, List.drop_take, d4, List.take_left' (by rw [bytesOf_length]; exact hts)]
  have x3 : S.extract 8 (8 + c.body.size) = c.body := by
    apply bytes_inj
    rw [bytes_ext, List.drop_take, d8, Nat.add_sub_cancel_left, List.take_left' (by rw [bytesOf_length])]
  have hln : lenZ z S = (c.body.size : Int) := by
    unfold lenZ lenM
    rw [x1, x2, hfar, hz, fromN_true, htt, sz_be4 _ (by omega) (by omega)]
    rfl
  have hB : begB z S = true := by
    unfold begB
    rw [x1, hid, hln, decide_eq_true (by omega), decide_eq_true (by omega), decide_eq_true (by omega)]
    rfl
  have hodd : oddC c = decide (c.body.size % 2 = 1) := rfl
  have hpad : padC S c.body.size = c.pad := by
    unfold padC
    by_cases ho : c.body.size % 2 = 1
    · rw [decide_eq_true ho] at hodd
      rw [if_pos ho]
      cases q : hasPadB c
      · have hte := hpt q hodd
        rw [q, hte] at hlen
        have hpm : c.pad = -1 := by
          unfold hasPadB at q
          rw [hodd] at q
          simpa using q
        rw [if_neg (by simp at hlen; omega), hpm]
      · rw [q] at hlen dn
        have hr := pad_range c (decide (t = [])) (by rw [layOk_eq, hid, hp]; rfl) q
        rw [if_pos (by simp at hlen; omega)]
        have : (bytesOf S).getD (8 + c.body.size) 0 = c.pad.toNat := by
          rw [List.getD_eq_getElem?_getD, ← Nat.add_zero (8 + c.body.size), ← List.getElem?_drop, dn]
          rfl
        rw [this]
        omega
    · rw [decide_eq_false ho] at hodd
      rw [if_neg ho]
      rw [padOk_even _ _ hodd] at hp
      have := eq_of_beq hp
      exact this.symm
  refine ⟨hB, ?_, ?_⟩
  · rw [begC_eq z S _ hln, x1, x3, hpad]
  · unfold begR
    rw [begN_eq z S _ hln]
    apply bytes_inj
    rw [bytes_ext, List.take_of_length_le (by rw [bytesOf_length]; exact Nat.le_refl _), bytesOf_textOf _ ht]
    have key : 8 + c.body.size + (if c.body.size % 2 = 1 ∧ 8 + c.body.size < S.size then 1 else 0) = 8 + c.body.size + (if hasPadB c then [c.pad.toNat] else []).length := by
      congr 1
      cases q : hasPadB c
      · by_cases ho : c.body.size % 2 = 1
        · rw [decide_eq_true ho] at hodd
          have hte := hpt q hodd
          rw [q, hte] at hlen
          rw [if_neg (fun w => by simp at hlen; omega)]
          rfl
        · rw [if_neg (fun w => ho w.1)]
          rfl
      · rw [q] at hlen
        have ho : c.body.size % 2 = 1 := by
          unfold hasPadB at q
          have := (Bool.and_eq_true_iff.1 q).1
          rw [hodd] at this
          exact of_decide_eq_true this
        rw [if_pos ⟨ho, by simp at hlen; omega⟩]
        rfl
    rw [key]
    have : (bytesOf S).drop (8 + c.body.size + (if hasPadB c then [c.pad.toNat] else []).length) = ((bytesOf S).drop (8 + c.body.size)).drop (if hasPadB c then [c.pad.toNat] else []).length := by rw [List.drop_drop]
    rw [this, dn, List.drop_left' rfl]

theorem layZ_lt (z : Siz) : ∀ (l : List Chk), layAll l = true → ∀ b ∈ layZ z l, b < 256
  | [], _, b, hb => by cases hb
  | c :: t, h, b, hb => by
    have h1 : ∃ last, layOk c last = true := by
      cases t with
      | nil => exact ⟨true, h⟩
      | cons d t => exact ⟨false, (Bool.and_eq_true_iff.1 h).1⟩
    have h2 : layAll t = true := by
      cases t with
      | nil => rfl
      | cons d t => exact (Bool.and_eq_true_iff.1 h).2
    obtain ⟨last, hl⟩ := h1
    have e : layZ z (c :: t) = chunkL z c ++ layZ z t := by unfold layZ; rw [List.flatMap_cons]
    rw [e] at hb
    rcases List.mem_append.1 hb with q | q
    · unfold chunkL at q
      rcases List.mem_append.1 q with q | q
      · rcases List.mem_append.1 q with q | q
        · rcases List.mem_append.1 q with q | q
          · exact bytesOf_lt _ b q
          · exact bytesOf_lt _ b q
        · exact bytesOf_lt _ b q
      · cases hp : hasPadB c
        · rw [hp] at q
          cases q
        · rw [hp] at q
          have := pad_range c last hl hp
          have e : b = c.pad.toNat := by simpa using q
          omega
    · exact layZ_lt z t h2 b q
theorem chunkL_pos (z : Siz) (c : Chk) (h : idB c.id = true) : 4 ≤ (chunkL z c).length := by
  unfold chunkL
  simp only [List.length_append, bytesOf_length]
  have := idB_size _ h
  omega
/-- What was laid is read as it was. -/
theorem lay_reads : ∀ (L acc : List Chk) (n : Nat), layAll L = true → (∀ c ∈ L, c.body.size < 4294967296) → acc.length + L.length ≤ 1024 → (layZ (zB true) L).length < n → chunkN n (zB true) acc (textOf (layZ (zB true) L)) = (acc ++ L, 0)
  | [], acc, 0, _, _, _, hn => absurd hn (Nat.not_lt_zero _)
  | [], acc, n + 1, _, _, _, _ => by rw [chunkN_end _ _ _ _ (by rfl), List.append_nil]
  | c :: t, acc, 0, _, _, _, hn => absurd hn (Nat.not_lt_zero _)
  | c :: t, acc, n + 1, h, hb, hl, hn => by
    have h1 : layOk c (decide (layZ (zB true) t = [])) = true := by
      cases t with
      | nil => exact h
      | cons d t =>
        have hd : layAll (d :: t) = true := (Bool.and_eq_true_iff.1 h).2
        have hdi : idB d.id = true := by
          have : ∃ last, layOk d last = true := by
            cases t with
            | nil => exact ⟨true, hd⟩
            | cons x t => exact ⟨false, (Bool.and_eq_true_iff.1 hd).1⟩
          obtain ⟨last, q⟩ := this
          rw [layOk_eq] at q
          exact (Bool.and_eq_true_iff.1 q).1
        have e : layZ (zB true) (d :: t) = chunkL (zB true) d ++ layZ (zB true) t := by unfold layZ; rw [List.flatMap_cons]
        have hp := chunkL_pos (zB true) d hdi
        rw [decide_eq_false (fun q => by rw [e] at q; have := congrArg List.length q; rw [List.length_append, List.length_nil] at this; omega)]
        exact (Bool.and_eq_true_iff.1 h).1
    have h2 : layAll t = true := by
      cases t with
      | nil => rfl
      | cons d t => exact (Bool.and_eq_true_iff.1 h).2
    have h1' := h1
    rw [layOk_eq] at h1'
    obtain ⟨hid, hpad⟩ := Bool.and_eq_true_iff.1 h1'
    have e : layZ (zB true) (c :: t) = chunkL (zB true) c ++ layZ (zB true) t := by unfold layZ; rw [List.flatMap_cons]
    rw [e] at hn ⊢
    have hlt := layZ_lt (zB true) t h2
    obtain ⟨b1, b2, b3⟩ := begC_lay (zB true) c (layZ (zB true) t) rfl (none_ne _ (idB_size _ hid)) hid (hb c (List.mem_cons_self ..)) hlt hpad (fun q1 q2 => by
      have hpm : c.pad = -1 := by
        unfold hasPadB at q1
        rw [q2] at q1
        simpa using q1
      rw [padOk_none _ _ q2 hpm] at hpad
      exact of_decide_eq_true hpad)
    have hpos := chunkL_pos (zB true) c hid
    rw [List.length_append] at hn
    rw [chunkN_step _ _ _ _ (by have := (beg_parts _ _ b1).1; omega) b1 (by simp at hl; omega), b2, b3]
    rw [lay_reads t (acc ++ [c]) n h2 (fun d hd => hb d (List.mem_cons_of_mem _ hd)) (by simp at hl ⊢; omega) (by omega)]
    rw [List.append_assoc]
    rfl
theorem lay_chunks (L : List Chk) (h : standB L = true) (hb : ∀ c ∈ L, c.body.size < 4294967296) : chunksN (layT L true) true = (L, 0) := by
  obtain ⟨h1, h2⟩ := Bool.and_eq_true_iff.1 h
  have h1 := of_decide_eq_true h1
  rw [← chunk_all, ← lay_text L true h]
  show chunkN _ (zB true) [] (textOf (layZ (zB true) L)) = _
  rw [lay_reads L [] _ h2 hb (by simpa using h1) (by rw [textOf_size]; exact Nat.lt_succ_self _)]
  rfl
theorem lay_size (L : List Chk) (h : standB L = true) (hb : ∀ c ∈ L, c.body.size < 4294967296) : (layT L true).size = sizeL L := by
  exact (chunks_lay _ L (lay_chunks L h hb)).2.2.symm

end Go.Proofs.Ytaepgjheknkojaa
