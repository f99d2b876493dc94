/- Own text: samples that fit go into a plain file and come out as they were, plain. what is read and laid is of a fair size; the values of awake. -/
import Derived.Test.YtfnkdahocehilaaGreatQ6hold
import Derived.Test.YtfnkdahocehilaaGreatG42x
import Derived.Test.YtfnkdahocehilaaGreatG43x
import Derived.Test.YtfnkdahocehilaaGreatG16x
import Derived.Test.YtfnkdahocehilaaGreatG46x
namespace Go.Proofs.YtfnkdahocehilaaGreat
open Go.RowKit
set_option linter.unusedSimpArgs false
set_option linter.unusedVariables false

theorem fmt_id : idB idFmt = true := by decide +kernel
theorem data_id : idB idData = true := by decide +kernel
theorem data_ne_fmt : (idData.toList == idFmt.toList) = false := by rw [fmt_list, idData_list]; decide
theorem riff_short (f : Fst) (h : f.form = riffT) : shortB f = true ∧ longB f = false := by
  refine ⟨?_, ?_⟩
  · unfold shortB
    rw [h]
    exact beq_self_eq_true _
  · unfold longB
    rw [h, rf64_list, riff_list]
    decide
/-- The chunks of a plain file, with its samples. -/
def plC (p : Pcm) : List Chk := [⟨idFmt, plainT (sndP p), 0⟩, ⟨idData, smpN p, 0⟩]
theorem bldL_plain (p : Pcm) : bldL p (plainL p) = plC p := by
  unfold bldL plainL plC fillC
  simp only [List.map_cons, List.map_nil]
  rw [fmt_ne_data, beq_self_eq_true]
  rfl
theorem fillB_plain (p : Pcm) : fillB (plainL p) = true := by
  unfold fillB plainL fillOk
  simp only [List.all_cons, List.all_nil]
  rw [fmt_ne_data, isEmpty_true (⟨#[]⟩ : ByteArray) rfl]
  simp
theorem pad_zero (c : Chk) (h : c.pad = 0) (last : Bool) : padOk c last = true := by
  cases ho : oddC c
  · rw [padOk_even _ _ ho, h]
    rfl
  · rw [padOk_some _ _ ho (by rw [h]; decide), h]
    rfl
theorem standB_plain (p : Pcm) : standB (plC p) = true := by
  unfold standB plC
  show (decide (2 ≤ 1024) && (layOk _ false && layOk _ true)) = true
  rw [layOk_eq, layOk_eq, pad_zero _ rfl, pad_zero _ rfl]
  show (decide (2 ≤ 1024) && ((idB idFmt && true) && (idB idData && true))) = true
  rw [fmt_id, data_id]
  rfl
theorem sizeL_plain (p : Pcm) (hf : fitsN 1 p = 0) : sizeL (plC p) ≤ 33554432 + 58 ∧ 32 ≤ sizeL (plC p) := by
  have h1 := smp_size p hf
  obtain ⟨_, _, h2⟩ := plain_snd p hf
  unfold plC sizeL
  simp only [List.map_cons, List.map_nil, List.sum_cons, List.sum_nil]
  unfold sizeC
  simp only
  constructor
  · split <;> split <;> omega
  · split <;> split <;> omega
/-- What is come to of a plain file's chunks. -/
def plG (f : Fst) (p : Pcm) : Fst := { f with seen := f.seen + 1 + 1, hf := true, a := sndP p, hd := true, smp := smpN p }
theorem take_fmt (f : Fst) (p : Pcm) (hf : fitsN 1 p = 0) (hform : f.form = riffT) (h0 : f.hf = false) : takeN f ⟨idFmt, plainT (sndP p), 0⟩ = ({ f with seen := f.seen + 1, hf := true, a := sndP p }, 0) := by
  obtain ⟨e1, e2, _⟩ := plain_snd p hf
  have hl := (riff_short f hform).2
  unfold takeN
  rw [hl]
  simp only [Bool.false_and, Bool.false_eq_true, if_false, beq_self_eq_true, if_true]
  unfold takeFmtN
  have : (seenN f).hf = false := h0
  rw [this, e1, e2]
  rfl
theorem take_dat (f : Fst) (s : ByteArray) (hform : f.form = riffT) (h0 : f.hf = true) (h1 : f.hd = false) : takeN f ⟨idData, s, 0⟩ = ({ f with seen := f.seen + 1, hf := true, hd := true, smp := s }, 0) := by
  have hl := (riff_short f hform).2
  unfold takeN
  rw [hl]
  simp only [Bool.false_and, Bool.false_eq_true, if_false, beq_self_eq_true, if_true]
  rw [data_ne_fmt]
  simp only [Bool.false_eq_true, if_false]
  unfold takeDataN
  have e0 : (seenN f).hf = true := h0
  have e1 : (seenN f).hd = false := h1
  have e2 : longB (seenN f) = false := hl
  rw [e0, e1, e2]
  rfl
theorem has_plain (f : Fst) (p : Pcm) (hf : fitsN 1 p = 0) (hform : f.form = riffT) (h0 : f.hf = false) (h1 : f.hd = false) : hasN f (plC p) = (plG f p, true) := by
  have t1 := take_fmt f p hf hform h0
  have t2 := take_dat { f with seen := f.seen + 1, hf := true, a := sndP p } (smpN p) hform rfl h1
  unfold plC
  rw [hasN_yes _ _ _ (by rw [t1]), t1, hasN_yes _ _ _ (by rw [t2]), t2]
  rfl
theorem end_plain (f : Fst) (p : Pcm) (hform : f.form = riffT) : endN (plG f p) = 0 := by
  have hl : longB (plG f p) = false := (riff_short (plG f p) hform).2
  unfold endN
  rw [hl]
  rfl
theorem readN_at (n : Nat) (f : Fst) (l : List Chk) (s : ByteArray) (z : Siz) (c : Chk) (r : ByteArray) (g : Fst) (h : ¬ s.size = 0) (hz : f.z = z) (hb : begB z s = true) (hc : begC z s = c) (hr : begR z s = r) (hl : ¬ 1024 ≤ l.length) (ht : takeN f c = (g, 0)) : readN (n + 1) f l s = readN n g (l ++ [bareC c]) r := by
  subst hz
  subst hc
  subst hr
  rw [readN_step n f l s h hb hl (by rw [ht]), ht]
/-- Reading what was laid. -/
theorem read_plain (n : Nat) (f : Fst) (p : Pcm) (hf : fitsN 1 p = 0) (hform : f.form = riffT) (hz : f.z = ⟨false, ⟨#[]⟩, 0⟩) (h0 : f.hf = false) (h1 : f.hd = false) :
    readN (n + 3) f [] (textOf (layZ ⟨false, ⟨#[]⟩, 0⟩ (plC p))) = (plG f p, plainL p, 0) := by
  obtain ⟨e1, e2, e3⟩ := plain_snd p hf
  have hs := smp_size p hf
  have hne : ∀ x : ByteArray, idB x = true → (x.toList == (⟨#[]⟩ : ByteArray).toList) = false := fun x hx => none_ne x (idB_size _ hx)
  have hlt : ∀ b ∈ layZ ⟨false, ⟨#[]⟩, 0⟩ [⟨idData, smpN p, 0⟩], b < 256 := fun b hb => by
    have hb2 : b ∈ chunkL ⟨false, ⟨#[]⟩, 0⟩ ⟨idData, smpN p, 0⟩ := by simpa [layZ] using hb
    unfold chunkL at hb2
    rcases List.mem_append.1 hb2 with q | q
    · rcases List.mem_append.1 q with q | q
      · rcases List.mem_append.1 q with q | q
        · exact bytesOf_lt _ b q
        · exact bytesOf_lt _ b q
      · exact bytesOf_lt _ b q
    · split at q
      · have : b = 0 := by simpa using q
        omega
      · cases q
  have b1 := beg_lay ⟨false, ⟨#[]⟩, 0⟩ ⟨idFmt, plainT (sndP p), 0⟩ (layZ ⟨false, ⟨#[]⟩, 0⟩ [⟨idData, smpN p, 0⟩]) rfl (hne _ fmt_id) fmt_id (by show (plainT (sndP p)).size < _; omega) hlt (pad_zero _ rfl _) (fun _ ho => by
    exfalso
    have : (plainT (sndP p)).size % 2 = 1 := of_decide_eq_true ho
    omega)
  have b2 := beg_lay ⟨false, ⟨#[]⟩, 0⟩ ⟨idData, smpN p, 0⟩ [] rfl (hne _ data_id) data_id (by show (smpN p).size < _; omega) (fun b hb => by cases hb) (pad_zero _ rfl _) (fun _ _ => rfl)
  have l1 : layZ ⟨false, ⟨#[]⟩, 0⟩ (plC p) = chunkL ⟨false, ⟨#[]⟩, 0⟩ ⟨idFmt, plainT (sndP p), 0⟩ ++ layZ ⟨false, ⟨#[]⟩, 0⟩ [⟨idData, smpN p, 0⟩] := rfl
  have l2 : layZ ⟨false, ⟨#[]⟩, 0⟩ [⟨idData, smpN p, 0⟩] = chunkL ⟨false, ⟨#[]⟩, 0⟩ ⟨idData, smpN p, 0⟩ ++ [] := by simp [layZ]
  rw [← l1] at b1
  rw [← l2] at b2
  have t1 := take_fmt f p hf hform h0
  have t2 := take_dat { f with seen := f.seen + 1, hf := true, a := sndP p } (smpN p) hform rfl h1
  have s1 : ¬ (textOf (layZ ⟨false, ⟨#[]⟩, 0⟩ (plC p))).size = 0 := by have := (beg_parts _ _ b1.1).1; omega
  have s2 : ¬ (textOf (layZ ⟨false, ⟨#[]⟩, 0⟩ [⟨idData, smpN p, 0⟩])).size = 0 := by have := (beg_parts _ _ b2.1).1; omega
  rw [readN_at _ f _ _ _ _ _ _ s1 hz b1.1 b1.2.1 b1.2.2 (by decide) t1]
  rw [readN_at _ ({ f with seen := f.seen + 1, hf := true, a := sndP p } : Fst) _ _ _ _ _ (plG f p) s2 hz b2.1 b2.2.1 b2.2.2 (by simp) t2]
  rw [readN_end _ _ _ _ (by rw [textOf_nil]; rfl)]
  have hE := end_plain f p hform
  refine Prod.ext rfl (Prod.ext ?_ hE)
  show [bareC ⟨idFmt, plainT (sndP p), 0⟩] ++ [bareC ⟨idData, smpN p, 0⟩] = plainL p
  unfold bareC plainL
  simp only
  rw [fmt_ne_data, beq_self_eq_true]
  rfl
theorem head_plain (f : Fst) (hform : f.form = riffT) (h0 : 0 ≤ f.behind) (h1 : f.behind < 4294967296) : headN f = (riffT ++ leT f.behind 4 ++ waveT, true) ∧ (riffT ++ leT f.behind 4 ++ waveT).size = 12 := by
  have hs := (riff_short f hform).1
  have hfit : fitsB f.behind 4 = true := by
    unfold fitsB
    exact decide_eq_true ⟨by decide, by decide, h0, h1⟩
  refine ⟨?_, ?_⟩
  · unfold headN
    rw [hs, if_pos rfl, hform, wE_yes _ _ hfit]
    rfl
  · rw [ByteArray.size_append, ByteArray.size_append, leT_four _ h0 h1]
    rfl
/-- Samples that fit go into a plain file, and come out as they were. -/
theorem hold_plain (p : Pcm) (hf : fitsN 1 p = 0) :
    bldE p riffT (plainL p) = 0 ∧ bldT p riffT (plainL p) = riffT ++ leT (4 + (sizeL (plC p) : Int)) 4 ++ waveT ++ textOf (layZ ⟨false, ⟨#[]⟩, 0⟩ (plC p)) ∧ (textOf (layZ ⟨false, ⟨#[]⟩, 0⟩ (plC p))).size = sizeL (plC p) ∧
    parE (bldT p riffT (plainL p)) = 0 ∧ fP (readR (bldT p riffT (plainL p))).1 = p ∧ (bldT p riffT (plainL p)).extract 0 4 = riffT ∧ (readR (bldT p riffT (plainL p))).2.1 = plainL p := by
  obtain ⟨hz1, hz2⟩ := sizeL_plain p hf
  obtain ⟨hc, hg, hr1, hc1, hb1, hw⟩ := fits_good p hf
  have hfB : (fB riffT (plC p)).form = riffT := rfl
  obtain ⟨hh1, hh2⟩ := head_plain (fB riffT (plC p)) hfB (by show (0 : Int) ≤ 4 + _; omega) (by show (4 : Int) + _ < _; omega)
  have hbe : (fB riffT (plC p)).behind = 4 + (sizeL (plC p) : Int) := rfl
  rw [hbe] at hh1 hh2
  have hhas := has_plain (fB riffT (plC p)) p hf hfB rfl rfl
  have hhB : hasB (fB riffT (plC p)) (plC p) (sndP p) = true := by
    unfold hasB
    rw [hhas]
    show (true && (endN (plG (fB riffT (plC p)) p) == 0 && sndB (sndP p) (sndP p))) = true
    rw [end_plain _ p hfB, (sndB_eq _ _).2 rfl]
    rfl
  have hE : bldE p riffT (plainL p) = 0 := by
    unfold bldE
    rw [if_pos hf, bldL_plain, fillB_plain, standB_plain, hh1, hhB]
    simp only [Bool.and_self, if_true]
    rw [if_neg (by omega)]
  have hT : bldT p riffT (plainL p) = riffT ++ leT (4 + (sizeL (plC p) : Int)) 4 ++ waveT ++ textOf (layZ ⟨false, ⟨#[]⟩, 0⟩ (plC p)) := by
    unfold bldT
    rw [if_pos hE, bldL_plain, hhas, hh1]
    show textOf (bytesOf _ ++ layZ ⟨false, ⟨#[]⟩, 0⟩ (plC p)) = _
    rw [← textOf_append, textOf_bytesOf]
  have hrd : ∀ n f, f.form = riffT → f.z = ⟨false, ⟨#[]⟩, 0⟩ → f.hf = false → f.hd = false → readN (n + 3) f [] (textOf (layZ ⟨false, ⟨#[]⟩, 0⟩ (plC p))) = (plG f p, plainL p, 0) := fun n f a1 a2 a3 a4 => read_plain n f p hf a1 a2 a3 a4
  have hts : (textOf (layZ ⟨false, ⟨#[]⟩, 0⟩ (plC p))).size = sizeL (plC p) := by
    have h := hrd ((textOf (layZ ⟨false, ⟨#[]⟩, 0⟩ (plC p))).size) (fB riffT (plC p)) rfl rfl rfl rfl
    obtain ⟨L, a1, a2, a3, a4, _⟩ := read_reads _ _ _ _ _ _ (by omega) h
    have a5 := reads_size L _ _ a4
    rw [← a5]
    have hL : L = plC p := by
      obtain ⟨z, _, _⟩ : ∃ z : Nat, True ∧ True := ⟨0, trivial, trivial⟩
      have hlen : L.length = 2 := by
        have := congrArg List.length a1
        simp [plainL] at this
        exact this.symm
      have hbare : L.map bareC = plainL p := by simpa using a1.symm
      have hsm : (plG (fB riffT (plC p)) p).smp = smpN p := rfl
      have hd := (has_data L (fB riffT (plC p)) (by rw [a2])).2
      rw [a2] at hd
      have := fill_all (smpN p) L hd
      rw [hbare] at this
      rw [← this]
      exact bldL_plain p
    rw [hL]
  generalize hS : bldT p riffT (plainL p) = S at *
  generalize hX : textOf (layZ ⟨false, ⟨#[]⟩, 0⟩ (plC p)) = X at *
  have hSs : S.size = 12 + sizeL (plC p) := by rw [hT, ByteArray.size_append, hh2, hts]
  have x1 : S.extract 0 12 = riffT ++ leT (4 + (sizeL (plC p) : Int)) 4 ++ waveT := by rw [hT, ext_left _ _ _ _ (by omega), ext_all _ _ hh2]
  have x2 : S.extract 12 S.size = X := by
    rw [hT, ext_right _ _ _ _ (by omega), hh2]
    have : (riffT ++ leT (4 + (sizeL (plC p) : Int)) 4 ++ waveT ++ X).size - 12 = X.size := by rw [ByteArray.size_append, hh2]; omega
    rw [this]
    exact ext_all _ _ rfl
  have x0 : S.extract 0 4 = riffT := by
    have e : riffT.size = 4 := rfl
    rw [hT, ext_left _ _ _ _ (by omega)]
    rw [ext_left _ _ _ _ (by rw [ByteArray.size_append]; omega), ext_left _ _ _ _ (by omega), ext_all _ _ e]
  have hf0 : f0 S = fB riffT (plC p) := by
    have e : (S.size : Int) - 8 = 4 + ((sizeL (plC p) : Nat) : Int) := by rw [hSs]; omega
    unfold fB f0
    rw [x0, e]
  have hRR : readR S = (plG (fB riffT (plC p)) p, plainL p, 0) := by
    rw [readR_def, x2, hf0]
    have : X.size + 1 = (X.size - 2) + 3 := by omega
    rw [this]
    exact hrd _ _ rfl rfl rfl rfl
  obtain ⟨u1, u2⟩ := unpack_pack p false (p.wd == 8) hc
  have hsm : smpN p = textOf (packL p false (p.wd == 8) (lenP p)) := by
    unfold smpN pakN
    rw [if_pos hc]
  have hfE : fE (plG (fB riffT (plC p)) p) = 0 := by
    show uE (smpN p) p.rate p.ch p.wd false (p.wd == 8) = 0
    rw [uE_unpE, hsm]
    exact u1
  have hfP : fP (plG (fB riffT (plC p)) p) = p := by
    show uP (smpN p) p.rate p.ch p.wd false (p.wd == 8) = p
    rw [uP_unpP, hsm]
    exact u2
  refine ⟨hE, hT, hts, ?_, by rw [hRR]; exact hfP, x0, by rw [hRR]⟩
  unfold parE
  rw [if_neg (by omega), if_neg (by omega), hf0, hh1, hRR, x1]
  simp only [beq_self_eq_true, Bool.and_self, if_true]
  exact hfE

end Go.Proofs.YtfnkdahocehilaaGreat

namespace Go.Proofs.YtfnkdahocehilaaGreat
open Go.RowKit
set_option linter.unusedSimpArgs false
set_option linter.unusedVariables false

theorem lay_id : ∀ (L : List Chk), layAll L = true → ∀ c ∈ L, c.id.size = 4
  | [], _, c, hc => by cases hc
  | [d], h, c, hc => by
    obtain rfl : c = d := by simpa using hc
    have h : layOk c true = true := h
    rw [layOk_eq] at h
    exact idB_size _ (Bool.and_eq_true_iff.1 h).1
  | d :: e :: t, h, c, hc => by
    have h : (layOk d false && layAll (e :: t)) = true := h
    obtain ⟨h1, h2⟩ := Bool.and_eq_true_iff.1 h
    rcases List.mem_cons.1 hc with rfl | hc
    · rw [layOk_eq] at h1
      exact idB_size _ (Bool.and_eq_true_iff.1 h1).1
    · exact lay_id (e :: t) h2 c hc
theorem size_of : ∀ (L : List Chk) (c : Chk), c ∈ L → c.body.size ≤ sizeL L
  | [], c, hc => by cases hc
  | d :: t, c, hc => by
    have e : sizeL (d :: t) = sizeC d + sizeL t := by unfold sizeL; simp
    rw [e]
    rcases List.mem_cons.1 hc with rfl | hc
    · unfold sizeC
      omega
    · have := size_of t c hc
      omega

theorem fair_read (s : ByteArray) (h : parE s = 0) : FairL (readR s).2.1 := by
  unfold parE at h
  by_cases h1 : 67108864 < s.size
  · rw [if_pos h1] at h
    cases h
  rw [if_neg h1] at h
  by_cases h2 : s.size < 12
  · rw [if_pos h2] at h
    cases h
  rw [if_neg h2] at h
  cases hq : (headN (f0 s)).2 && (s.extract 0 12).toList == (headN (f0 s)).1.toList
  · rw [hq] at h
    cases h
  rw [hq] at h
  simp only [if_true] at h
  by_cases h3 : (readR s).2.2 = 0
  · have hRR : readR s = ((readR s).1, (readR s).2.1, 0) := Prod.ext rfl (Prod.ext rfl h3)
    have hRR2 : readN ((s.extract 12 s.size).size + 1) (f0 s) [] (s.extract 12 s.size) = ((readR s).1, (readR s).2.1, 0) := (readR_def s).symm.trans hRR
    obtain ⟨L, e1, _, _, e4, _⟩ := read_reads _ (f0 s) [] (s.extract 12 s.size) (readR s).1 (readR s).2.1 (Nat.lt_succ_self _) hRR2
    have hsz : sizeL L = s.size - 12 := by rw [reads_size L _ _ e4, ext_size _ _ _ (by omega) (Nat.le_refl _)]
    have hlay := reads_lay L _ _ e4
    rw [e1]
    intro c hc
    obtain ⟨d, hd, rfl⟩ := List.mem_map.1 (by simpa using hc : c ∈ L.map bareC)
    obtain ⟨q1, q2⟩ := bareC_sizes d
    have hid : d.id.size = 4 := lay_id L hlay d hd
    have hbd : d.body.size ≤ sizeL L := size_of L d hd
    exact ⟨by omega, by omega⟩
  · rw [if_neg h3] at h
    exact absurd h h3
theorem fair_plain (p : Pcm) (hf : fitsN 1 p = 0) : FairL (plainL p) := by
  obtain ⟨_, _, h2⟩ := plain_snd p hf
  intro c hc
  unfold plainL at hc
  have hc2 : c = ⟨idFmt, plainT (sndP p), 0⟩ ∨ c = ⟨idData, ⟨#[]⟩, 0⟩ := by simpa using hc
  rcases hc2 with rfl | rfl
  · exact ⟨by show (4 : Nat) ≤ _; decide, by show (plainT (sndP p)).size ≤ _; omega⟩
  · exact ⟨by decide, by decide⟩
theorem chkB_refl (c : Chk) : chkB c c = true := by
  unfold chkB
  simp
theorem sameC_refl : ∀ l : List Chk, sameC l l = true
  | [] => rfl
  | c :: t => by
    show (chkB c c && sameC t t) = true
    rw [chkB_refl, sameC_refl t]
    rfl
theorem sameW_refl (f : ByteArray) (l : List Chk) : sameW f l f l = true := by
  unfold sameW
  rw [sameC_refl, beq_self_eq_true]
  rfl
theorem fits16 : fitsN 1 (two 16) = 0 := fitsN_of _ two16 (Or.inr (Or.inl rfl))
/-- The samples of awake. -/
def p16 : Pcm := two 16
theorem smp16 : smpN (two 16) = ⟨#[1, 0, 255, 255]⟩ := pak16
theorem size16 : sizeL (plC (two 16)) = 36 := by
  have hg := (fits_good (two 16) fits16).2.1
  have e : plainT (sndP (two 16)) = bodyT (sndP (two 16)) 16 ⟨#[]⟩ := by
    unfold plainT
    rw [if_pos (by decide)]
  have h1 : (plainT (sndP (two 16))).size = 16 := by rw [e]; exact bodyT_size hg 16 (Or.inl rfl) _ (by decide)
  have h2 : (smpN (two 16)).size = 4 := by rw [smp16]; rfl
  have e1 : hasPadB ⟨idFmt, plainT (sndP (two 16)), 0⟩ = false := by
    unfold hasPadB oddC
    rw [h1]
    rfl
  have e2 : hasPadB ⟨idData, smpN (two 16), 0⟩ = false := by
    unfold hasPadB oddC
    rw [h2]
    rfl
  unfold plC sizeL
  simp only [List.map_cons, List.map_nil, List.sum_cons, List.sum_nil]
  unfold sizeC
  rw [e1, e2]
  simp only [h1, h2]
  rfl
/-- The text that awake builds. -/
def s16 : ByteArray := bldT (two 16) riffT (plainL (two 16))
theorem s16_size : s16.size = 48 := by
  obtain ⟨_, h2, h3, _⟩ := hold_plain (two 16) fits16
  unfold s16
  rw [h2, ByteArray.size_append, h3, size16]
  have := (head_plain (fB riffT (plC (two 16))) rfl (by show (0 : Int) ≤ 4 + _; omega) (by show (4 : Int) + ((sizeL (plC (two 16)) : Nat) : Int) < _; rw [size16]; decide)).2
  have hbe : (fB riffT (plC (two 16))).behind = 4 + (sizeL (plC (two 16)) : Int) := rfl
  rw [hbe, size16] at this
  rw [this]
theorem s16_head : s16.extract 0 12 = riffT ++ leT 40 4 ++ waveT := by
  obtain ⟨_, h2, h3, _⟩ := hold_plain (two 16) fits16
  unfold s16
  have := (head_plain (fB riffT (plC (two 16))) rfl (by show (0 : Int) ≤ 4 + _; omega) (by show (4 : Int) + ((sizeL (plC (two 16)) : Nat) : Int) < _; rw [size16]; decide)).2
  have hbe : (fB riffT (plC (two 16))).behind = 4 + (sizeL (plC (two 16)) : Int) := rfl
  rw [hbe] at this
  rw [h2, ext_left _ _ _ _ (by omega), ext_all _ _ this, size16]
  rfl
def oneX : ByteArray := ⟨#[120]⟩
theorem par_x : parE (s16 ++ ⟨#[120]⟩) = 2 := by
  obtain ⟨_, _, _, _, _, h6, _⟩ := hold_plain (two 16) fits16
  have hz := s16_size
  have hh := s16_head
  have h6 : s16.extract 0 4 = riffT := h6
  generalize s16 = s at *
  generalize hX : (⟨#[120]⟩ : ByteArray) = X at *
  have hX1 : X.size = 1 := by rw [← hX]; rfl
  clear hX
  have e4 : (s ++ X).extract 0 4 = riffT := by rw [ext_left _ _ _ _ (by omega), h6]
  have e12 : (s ++ X).extract 0 12 = riffT ++ leT 40 4 ++ waveT := by rw [ext_left _ _ _ _ (by omega), hh]
  have esz : (s ++ X).size = 49 := by rw [ByteArray.size_append, hz, hX1]
  have hf0 : (f0 (s ++ X)).form = riffT := e4
  have hbe : (f0 (s ++ X)).behind = 41 := by
    show ((s ++ X).size : Int) - 8 = 41
    rw [esz]
    rfl
  have hhd := (head_plain (f0 (s ++ X)) hf0 (by rw [hbe]; decide) (by rw [hbe]; decide)).1
  rw [hbe] at hhd
  have hne : ((riffT ++ leT 40 4 ++ waveT).toList == (riffT ++ leT 41 4 ++ waveT).toList) = false := by
    cases q : ((riffT ++ leT 40 4 ++ waveT).toList == (riffT ++ leT 41 4 ++ waveT).toList)
    · rfl
    · exfalso
      have q := eq_of_list _ _ q
      have l0 := leT_four 40 (by decide) (by decide)
      have l1 := leT_four 41 (by decide) (by decide)
      have hrz : riffT.size = 4 := rfl
      have x0 : (riffT ++ leT 40 4 ++ waveT).extract 4 8 = leT 40 4 := by rw [ext_left _ _ _ _ (by rw [ByteArray.size_append]; omega), ext_right _ _ _ _ (by omega), hrz]; exact ext_all _ _ l0
      have x1 : (riffT ++ leT 41 4 ++ waveT).extract 4 8 = leT 41 4 := by rw [ext_left _ _ _ _ (by rw [ByteArray.size_append]; omega), ext_right _ _ _ _ (by omega), hrz]; exact ext_all _ _ l1
      rw [q, x1] at x0
      have y0 := sz_le4 40 (by decide) (by decide)
      have y1 := sz_le4 41 (by decide) (by decide)
      rw [← x0, y1] at y0
      exact absurd y0 (by decide)
  unfold parE
  rw [if_neg (by omega), if_neg (by omega), hhd, e12, hne]
  rfl
def c10 : ByteArray := ⟨#[97, 98, 99, 100, 1, 0, 0, 0, 122, 7]⟩
def k10 : Chk := ⟨⟨#[97, 98, 99, 100]⟩, ⟨#[122]⟩, 7⟩
theorem c10_lay : textOf (chunkL ⟨false, ⟨#[]⟩, 0⟩ k10 ++ []) = c10 := by
  have hn : (k10.id.toList == (⟨#[]⟩ : ByteArray).toList) = false := none_ne _ rfl
  have ht : toldT ⟨false, ⟨#[]⟩, 0⟩ k10 = leT 1 4 := by
    show toT (toldN ⟨false, ⟨#[]⟩, 0⟩ k10) false = leT 1 4
    have : toldN ⟨false, ⟨#[]⟩, 0⟩ k10 = 1 := by
      unfold toldN
      rw [if_neg (by rw [hn]; decide)]
      rfl
    rw [this, toT_false]
  unfold chunkL
  rw [ht]
  decide +kernel
theorem chunk10 : chunkN (c10.size + 1) ⟨false, ⟨#[]⟩, 0⟩ [] c10 = ([k10], 0) := by
  obtain ⟨b1, b2, b3⟩ := beg_lay ⟨false, ⟨#[]⟩, 0⟩ k10 [] rfl (none_ne _ rfl) (by decide +kernel) (by decide) (fun b hb => by cases hb) (by decide +kernel) (fun _ _ => rfl)
  rw [c10_lay] at b1 b2 b3
  rw [show c10.size + 1 = 9 + 1 + 1 from rfl, chunkN_step _ _ _ _ (by decide) b1 (by decide), b2, b3, chunkN_end _ _ _ _ rfl]
  rfl

end Go.Proofs.YtfnkdahocehilaaGreat
