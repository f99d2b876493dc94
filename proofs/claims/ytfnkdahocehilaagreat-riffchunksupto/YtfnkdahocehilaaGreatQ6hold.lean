/- Own text: what is laid is read as it was; plain laws. -/
import Derived.Test.YtfnkdahocehilaaGreatG47x
namespace Go.Proofs.YtfnkdahocehilaaGreat
open Go.RowKit
set_option linter.unusedSimpArgs false
set_option linter.unusedVariables false

theorem sz_le2 (n : Int) (h0 : 0 ≤ n) (h1 : n < 65536) : leI (leT n 2) = n := by
  obtain ⟨m, rfl⟩ : ∃ m : Nat, n = (m : Int) := ⟨n.toNat, by omega⟩
  have hf := fits_of_nat m 2 (by decide) (by decide) (by omega)
  have e := leT_nat m 2 hf
  rw [show ((2 : Nat) : Int) = 2 from rfl] at e
  rw [e]
  unfold leI
  rw [bytesOf_textOf _ (lowL_lt m 2), ← lowL_reverse, List.reverse_reverse, fromBe_of _ (by rw [highL_length]; decide) (by rw [val_highL]; omega), val_highL]
  omega
theorem sz_le4 (n : Int) (h0 : 0 ≤ n) (h1 : n < 4294967296) : leI (leT n 4) = n := by
  obtain ⟨m, rfl⟩ : ∃ m : Nat, n = (m : Int) := ⟨n.toNat, by omega⟩
  have hf := fits_of_nat m 4 (by decide) (by decide) (by omega)
  have e := leT_nat m 4 hf
  rw [show ((4 : Nat) : Int) = 4 from rfl] at e
  rw [e]
  unfold leI
  rw [bytesOf_textOf _ (lowL_lt m 4), ← lowL_reverse, List.reverse_reverse, fromBe_of _ (by rw [highL_length]; decide) (by rw [val_highL]; omega), val_highL]
  omega
theorem ext_left (a b : ByteArray) (i j : Nat) (h : j ≤ a.size) : (a ++ b).extract i j = a.extract i j := by
  rw [ByteArray.extract_append]
  have : b.extract (i - a.size) (j - a.size) = ⟨#[]⟩ := by
    apply ByteArray.ext
    apply Array.eq_empty_of_size_eq_zero
    show (b.extract (i - a.size) (j - a.size)).size = 0
    rw [ByteArray.size_extract]
    omega
  rw [this]
  exact ByteArray.append_empty
theorem ext_right (a b : ByteArray) (i j : Nat) (h : a.size ≤ i) : (a ++ b).extract i j = b.extract (i - a.size) (j - a.size) := by
  rw [ByteArray.extract_append]
  have : a.extract i j = ⟨#[]⟩ := by
    apply ByteArray.ext
    apply Array.eq_empty_of_size_eq_zero
    show (a.extract i j).size = 0
    rw [ByteArray.size_extract]
    omega
  rw [this]
  exact ByteArray.empty_append
theorem ext_all (a : ByteArray) (n : Nat) (h : a.size = n) : a.extract 0 n = a := by
  rw [← h]
  exact ByteArray.extract_zero_size
/-- The parts of fmt's first sixteen bytes. -/
theorem head_parts6 {a : Snd} (h : GoodS a) (n : Nat) :
    (headT a n).extract 0 2 = leT (tagN n) 2 ∧ (headT a n).extract 2 4 = leT a.ch 2 ∧ (headT a n).extract 4 8 = leT a.rate 4 ∧ (headT a n).extract 14 16 = leT a.wd 2 := by
  have hb := h.fair.blk
  have hr := h.rb
  have ht := tagN_range n
  have g1 := h.r1
  have g2 := h.fair.r0
  have g3 := h.fair.c0
  have g4 := h.fair.c1
  have g5 := h.fair.w0
  have g6 := h.fair.w1
  have s1 := leT_two _ ht.1 ht.2
  have s2 := leT_two a.ch (by omega) (by omega)
  have s3 := leT_four a.rate (by omega) (by omega)
  have s4 := leT_four _ hr.1 hr.2
  have s5 := leT_two (blkN a) (by omega) (by omega)
  have s6 := leT_two a.wd (by omega) (by omega)
  unfold headT
  generalize leT (tagN n) 2 = t1 at *
  generalize leT a.ch 2 = t2 at *
  generalize leT a.rate 4 = t3 at *
  generalize leT (a.rate * blkN a) 4 = t4 at *
  generalize leT (blkN a) 2 = t5 at *
  generalize leT a.wd 2 = t6 at *
  have z2 : (t1 ++ t2).size = 4 := by rw [ByteArray.size_append]; omega
  have z3 : (t1 ++ t2 ++ t3).size = 8 := by rw [ByteArray.size_append]; omega
  have z4 : (t1 ++ t2 ++ t3 ++ t4).size = 12 := by rw [ByteArray.size_append]; omega
  have z5 : (t1 ++ t2 ++ t3 ++ t4 ++ t5).size = 14 := by rw [ByteArray.size_append]; omega
  refine ⟨?_, ?_, ?_, ?_⟩
  · rw [ext_left _ _ _ _ (by omega), ext_left _ _ _ _ (by omega), ext_left _ _ _ _ (by omega), ext_left _ _ _ _ (by omega), ext_left _ _ _ _ (by omega), ext_all _ _ s1]
  · rw [ext_left _ _ _ _ (by omega), ext_left _ _ _ _ (by omega), ext_left _ _ _ _ (by omega), ext_left _ _ _ _ (by omega), ext_right _ _ _ _ (by omega), s1]
    exact ext_all _ _ s2
  · rw [ext_left _ _ _ _ (by omega), ext_left _ _ _ _ (by omega), ext_left _ _ _ _ (by omega), ext_right _ _ _ _ (by omega), z2]
    exact ext_all _ _ s3
  · rw [ext_right _ _ _ _ (by omega), z5]
    exact ext_all _ _ s6
theorem body_head {a : Snd} (h : GoodS a) (n : Nat) (hn : n = 16 ∨ n = 40) (sp : ByteArray) (i j : Nat) (hj : j ≤ 16) : (bodyT a n sp).extract i j = (headT a n).extract i j := by
  have hz := headT_size h n
  rcases hn with rfl | rfl
  · rfl
  · show (headT a 40 ++ _).extract i j = _
    rw [ext_left _ _ _ _ (by omega)]
theorem body_speak {a : Snd} (h : GoodS a) (sp : ByteArray) (hs : sp.size = 4) : (bodyT a 40 sp).extract 20 24 = sp := by
  have hz := headT_size h 40
  have g5 := h.fair.w0
  have g6 := h.fair.w1
  have s1 := leT_two 22 (by decide) (by decide)
  have s2 := leT_two a.wd (by omega) (by omega)
  show (headT a 40 ++ (leT 22 2 ++ leT a.wd 2 ++ sp ++ guidT)).extract 20 24 = sp
  have z2 : (leT 22 2 ++ leT a.wd 2).size = 4 := by rw [ByteArray.size_append]; omega
  have z3 : (leT 22 2 ++ leT a.wd 2 ++ sp).size = 8 := by rw [ByteArray.size_append]; omega
  rw [ext_right _ _ _ _ (by omega), hz, ext_left _ _ _ _ (by omega), ext_right _ _ _ _ (by omega), z2]
  exact ext_all _ _ hs
/-- fmt as it is laid says what it was laid for. -/
theorem snd_of_body {a : Snd} (h : GoodS a) (hr : 1 ≤ a.rate) (hc : 1 ≤ a.ch) (hw : a.wd = 8 ∨ a.wd = 16 ∨ a.wd = 24 ∨ a.wd = 32) (n : Nat) (hn : n = 16 ∨ n = 40) (sp : ByteArray) (hs : n = 40 → sp.size = 4) (hs0 : n = 16 → sp = ⟨#[]⟩) :
    sndE (bodyT a n sp) = 0 ∧ sndA (bodyT a n sp) = a := by
  have hfl : fmtLen n := by
    rcases hn with rfl | rfl
    · exact Or.inl rfl
    · exact Or.inr (Or.inr rfl)
  have hsz := bodyT_size h n hfl sp hs
  have ht := tagN_range n
  obtain ⟨p1, p2, p3, p4⟩ := head_parts6 h n
  have g1 := h.r1
  have g4 := h.fair.c1
  have g6 := h.fair.w1
  have htag : tagI (bodyT a n sp) = tagN n := by
    unfold tagI
    rw [body_head h n hn sp 0 2 (by decide), p1, sz_le2 _ ht.1 ht.2]
  have hsr : sndR (bodyT a n sp) = a := by
    unfold sndR
    rw [body_head h n hn sp 4 8 (by decide), body_head h n hn sp 2 4 (by decide), body_head h n hn sp 14 16 (by decide), p2, p3, p4, sz_le4 a.rate (by omega) (by omega), sz_le2 a.ch (by omega) (by omega), sz_le2 a.wd (by omega) (by omega)]
  have hwant : wantT a (bodyT a n sp) = bodyT a n sp := by
    unfold wantT speakT
    rw [hsz]
    rcases hn with rfl | rfl
    · rfl
    · rw [if_pos rfl, body_speak h sp (hs rfl)]
  have hE : sndE (bodyT a n sp) = 0 := by
    unfold sndE
    rw [hsr, htag, hsz, if_neg (by rcases hn with rfl | rfl <;> decide)]
    have e1 : (tagN n != 1 && tagN n != 65534) = false := by rcases hn with rfl | rfl <;> decide
    have e2 : (tagN n != tagN n) = false := by simp
    have e3 : (a.ch == 0 || (a.rate == 0 || a.wd == 0)) = false := by
      rw [Bool.or_eq_false_iff, Bool.or_eq_false_iff, beq_eq_false_iff_ne, beq_eq_false_iff_ne, beq_eq_false_iff_ne]
      omega
    have e4 : supB a = true := by
      unfold supB wdOk
      rw [decide_eq_true g4, decide_eq_true g1]
      rcases hw with q | q | q | q <;> rw [q] <;> rfl
    rw [e1, e2, e3, e4]
    simp only [Bool.false_eq_true, if_false, if_true]
    unfold agaE
    rw [hwant]
    simp
  refine ⟨hE, ?_⟩
  unfold sndA
  rw [if_pos hE, hsr]
theorem plain_snd (p : Pcm) (hf : fitsN 1 p = 0) : sndE (plainT (sndP p)) = 0 ∧ sndA (plainT (sndP p)) = sndP p ∧ ((plainT (sndP p)).size = 16 ∨ (plainT (sndP p)).size = 40) := by
  obtain ⟨_, hg, hr, hc, _, hw⟩ := fits_good p hf
  unfold plainT
  split
  · obtain ⟨h1, h2⟩ := snd_of_body hg hr hc hw 16 (Or.inl rfl) ⟨#[]⟩ (by decide) (fun _ => rfl)
    exact ⟨h1, h2, Or.inl (bodyT_size hg 16 (Or.inl rfl) _ (by decide))⟩
  · have hp := pow_small (sndP p).ch hg.fair.c0 hg.fair.c1
    have hs := leT_four (2 ^ (sndP p).ch.toNat - 1) (by omega) (by omega)
    obtain ⟨h1, h2⟩ := snd_of_body hg hr hc hw 40 (Or.inr rfl) _ (fun _ => hs) (fun q => absurd q (by decide))
    exact ⟨h1, h2, Or.inr (bodyT_size hg 40 (Or.inr (Or.inr rfl)) _ (fun _ => hs))⟩
/-- A chunk that was laid is read as it was. -/
theorem beg_lay (z : Siz) (c : Chk) (t : List Nat) (hz : z.big = false) (hfar : (c.id.toList == z.far.toList) = false) (hid : idB c.id = true) (hb : c.body.size < 4294967296) (ht : ∀ b ∈ t, b < 256) (hp : padOk c (decide (t = [])) = true) (hpt : hasPadB c = false → oddC c = true → t = []) :
    begB z (textOf (chunkL z c ++ t)) = true ∧ begC z (textOf (chunkL z c ++ t)) = c ∧ begR z (textOf (chunkL z c ++ t)) = textOf t := by
  have hid4 := idB_size _ hid
  have htn : toldN z c = (c.body.size : Int) := by unfold toldN; rw [hfar]; rfl
  have htt : toldT z c = leT (c.body.size : Int) 4 := by unfold toldT; rw [hz, toT_false, htn]
  have hts : (toldT z c).size = 4 := by rw [htt]; exact leT_four _ (by omega) (by omega)
  have hlp : ∀ b ∈ (if hasPadB c then [c.pad.toNat] else []), b < 256 := fun b hbm => by
    cases q : hasPadB c
    · rw [q] at hbm
      cases hbm
    · rw [q] at hbm
      have := pad_range c (decide (t = [])) (by rw [layOk_eq, hid, hp]; rfl) q
      have e : b = c.pad.toNat := by simpa using hbm
      omega
  have hall : ∀ b ∈ chunkL z c ++ t, b < 256 := fun b hbm => by
    unfold chunkL at hbm
    rcases List.mem_append.1 hbm with hbm | hbm
    · rcases List.mem_append.1 hbm with hbm | hbm
      · rcases List.mem_append.1 hbm with hbm | hbm
        · rcases List.mem_append.1 hbm with hbm | hbm
          · exact bytesOf_lt _ b hbm
          · exact bytesOf_lt _ b hbm
        · exact bytesOf_lt _ b hbm
      · exact hlp b hbm
    · exact ht b hbm
  have hbs := bytesOf_textOf _ hall
  generalize hS : textOf (chunkL z c ++ t) = S at *
  have hbs2 : bytesOf S = bytesOf c.id ++ (bytesOf (toldT z c) ++ (bytesOf c.body ++ ((if hasPadB c then [c.pad.toNat] else []) ++ t))) := by
    rw [hbs]
    unfold chunkL
    simp only [List.append_assoc]
  have hlen : S.size = 8 + c.body.size + ((if hasPadB c then [c.pad.toNat] else []).length + t.length) := by
    rw [← bytesOf_length S, hbs2]
    simp only [List.length_append, bytesOf_length]
    omega
  have x1 : S.extract 0 4 = c.id := by
    apply bytes_inj
    rw [bytes_ext, hbs2, List.drop_zero, List.take_left' (by rw [bytesOf_length]; exact hid4)]
  have d4 : (bytesOf S).drop 4 = bytesOf (toldT z c) ++ (bytesOf c.body ++ ((if hasPadB c then [c.pad.toNat] else []) ++ t)) := by
    rw [hbs2, List.drop_left' (by rw [bytesOf_length]; exact hid4)]
  have d8 : (bytesOf S).drop 8 = bytesOf c.body ++ ((if hasPadB c then [c.pad.toNat] else []) ++ t) := by
    have : (bytesOf S).drop 8 = ((bytesOf S).drop 4).drop 4 := by rw [List.drop_drop]
    rw [this, d4, List.drop_left' (by rw [bytesOf_length]; exact hts)]
  have dn : (bytesOf S).drop (8 + c.body.size) = (if hasPadB c then [c.pad.toNat] else []) ++ t := by
    have : (bytesOf S).drop (8 + c.body.size) = ((bytesOf S).drop 8).drop c.body.size := by rw [List.drop_drop]
    rw [this, d8, List.drop_left' (by rw [bytesOf_length])]
  have x2 : S.extract 4 8 = toldT z c := by
    apply bytes_inj
    rw [bytes_ext, List.drop_take, d4, List.take_left' (by rw [bytesOf_length]; exact hts)]
  have x3 : S.extract 8 (8 + c.body.size) = c.body := by
    apply bytes_inj
    rw [bytes_ext, List.drop_take, d8, Nat.add_sub_cancel_left, List.take_left' (by rw [bytesOf_length])]
  have hln : lenZ z S = (c.body.size : Int) := by
    unfold lenZ lenM
    rw [x1, x2, hfar, hz, fromN_false, htt, sz_le4 _ (by omega) (by omega)]
    rfl
  have hB : begB z S = true := by
    unfold begB
    rw [x1, hid, hln, decide_eq_true (by omega), decide_eq_true (by omega), decide_eq_true (by omega)]
    rfl
  have hodd : oddC c = decide (c.body.size % 2 = 1) := rfl
  have hpad : padC S c.body.size = c.pad := by
    unfold padC
    by_cases ho : c.body.size % 2 = 1
    · rw [decide_eq_true ho] at hodd
      rw [if_pos ho]
      cases q : hasPadB c
      · have hte := hpt q hodd
        rw [q, hte] at hlen
        have hpm : c.pad = -1 := by
          unfold hasPadB at q
          rw [hodd] at q
          simpa using q
        rw [if_neg (by simp at hlen; omega), hpm]
      · rw [q] at hlen dn
        have hr := pad_range c (decide (t = [])) (by rw [layOk_eq, hid, hp]; rfl) q
        rw [if_pos (by simp at hlen; omega)]
        have : (bytesOf S).getD (8 + c.body.size) 0 = c.pad.toNat := by
          rw [List.getD_eq_getElem?_getD, ← Nat.add_zero (8 + c.body.size), ← List.getElem?_drop, dn]
          rfl
        rw [this]
        omega
    · rw [decide_eq_false ho] at hodd
      rw [if_neg ho]
      rw [padOk_even _ _ hodd] at hp
      have := eq_of_beq hp
      exact this.symm
  refine ⟨hB, ?_, ?_⟩
  · rw [begC_eq z S _ hln, x1, x3, hpad]
  · unfold begR
    rw [begN_eq z S _ hln]
    apply bytes_inj
    rw [bytes_ext, List.take_of_length_le (by rw [bytesOf_length]; exact Nat.le_refl _), bytesOf_textOf _ ht]
    have key : 8 + c.body.size + (if c.body.size % 2 = 1 ∧ 8 + c.body.size < S.size then 1 else 0) = 8 + c.body.size + (if hasPadB c then [c.pad.toNat] else []).length := by
      congr 1
      cases q : hasPadB c
      · by_cases ho : c.body.size % 2 = 1
        · rw [decide_eq_true ho] at hodd
          have hte := hpt q hodd
          rw [q, hte] at hlen
          rw [if_neg (fun w => by simp at hlen; omega)]
          rfl
        · rw [if_neg (fun w => ho w.1)]
          rfl
      · rw [q] at hlen
        have ho : c.body.size % 2 = 1 := by
          unfold hasPadB at q
          have := (Bool.and_eq_true_iff.1 q).1
          rw [hodd] at this
          exact of_decide_eq_true this
        rw [if_pos ⟨ho, by simp at hlen; omega⟩]
        rfl
    rw [key]
    have : (bytesOf S).drop (8 + c.body.size + (if hasPadB c then [c.pad.toNat] else []).length) = ((bytesOf S).drop (8 + c.body.size)).drop (if hasPadB c then [c.pad.toNat] else []).length := by rw [List.drop_drop]
    rw [this, dn, List.drop_left' rfl]

end Go.Proofs.YtfnkdahocehilaaGreat
