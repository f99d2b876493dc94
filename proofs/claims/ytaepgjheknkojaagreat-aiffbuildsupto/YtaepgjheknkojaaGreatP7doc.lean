/- Own text: what the document's Build (aiff) makes, plainly. -/
import Derived.Test.YtaepgjheknkojaaGreatG42x
import Derived.Test.YtaepgjheknkojaaGreatG43x
import Derived.Test.YtaepgjheknkojaaGreatQ7parse
import Derived.Test.YtaepgjheknkojaaGreatQ7look
import Derived.Test.YtaepgjheknkojaaGreatG17x
namespace Go.Proofs.YtaepgjheknkojaaGreat
open Go.RowKit
set_option linter.unusedSimpArgs false
set_option linter.unusedVariables false

/-- The document's Build: what it reads of COMM, what it lays, the text that it reads back. -/
def dK (f : ByteArray) : Bool := f.toList == aifcT.toList
def dX (f : ByteArray) (l : List Chk) : Com := comR (cmB l) (dK f)
def dL (p : Pcm) (f : ByteArray) (l : List Chk) : List Chk := if (findN l ssndT).2 == 1 then filL l (findN l ssndT).1 (packN p (!(dX f l).lit) false) else l
def dS (p : Pcm) (f : ByteArray) (l : List Chk) : ByteArray := formT ++ beT (4 + ((layT (dL p f l) true).size : Int)) 4 ++ f ++ layT (dL p f l) true
structure DocOk (p : Pcm) (f : ByteArray) (l : List Chk) : Prop where
 c : (findN l commT).2 = 1
 z : f.size = 4
 e : comE (cmB l) (dK f) = 0
 y : layE (dL p f l) = 0
 r : p7E (dS p f l) = 0
 hp : p7P (dS p f l) = p
 hf : opF (dS p f l) = f
 hl : p7L (dS p f l) = l
theorem form_kind {f : ByteArray} (h : formB f = true) : kB f = dK f ∧ f.size = 4 := by
 unfold formB at h
 have hz : ∀ g : ByteArray, g.size = 4 → (f.toList == g.toList) = true → f.size = 4 := fun g hg q => by
  have := congrArg List.length (eq_of_beq q)
  rw [ByteArray.toList_eq, ByteArray.toList_eq] at this
  simpa [hg] using this.trans (by simpa using hg)
 unfold kB dK
 cases h1 : f.toList == aiffT.toList
 ·rw [h1] at h
  have h2 : (f.toList == aifcT.toList) = true := h
  exact ⟨by rw [h2]; rfl, hz aifcT (by decide) h2⟩
 ·refine ⟨?_, hz aiffT (by decide) h1⟩
  rw [eq_of_beq h1, aiff_list, aifc_list]
  decide
theorem doc_same {p : Pcm} {f : ByteArray} {l : List Chk} (hb : lkB f l = true) : dX f l = lkX f l ∧ dL p f l = bl7 p f l := by
 obtain ⟨h1, h2, h3⟩ := lkB_parts hb
 have hx : dX f l = lkX f l := by
  unfold dX lkX
  rw [hb, if_pos rfl, (form_kind h1).1]
 refine ⟨hx, ?_⟩
 unfold dL bl7 lkI
 rw [hb, if_pos rfl, hx]
 rcases findN_cases l ssndT with ⟨q1, q2, _⟩ | ⟨i, c, q1, q2, _, q4⟩
 ·rw [q2]
  unfold filL snI
  rw [q1]
  rfl
 ·have : (findN l ssndT).2 = 1 := by omega
  rw [this]
  rfl
theorem doc_ok (p : Pcm) (f : ByteArray) (l : List Chk) (hf : fitsN 2 p = 0) (h : ok7 p f l = true) : DocOk p f l ∧ b7T p f l = dS p f l := by
 obtain ⟨h1, _, h3, h4, h5, h6⟩ := hold7 p f l hf h
 unfold ok7 at h
 have ha := Bool.and_eq_true_iff.1 h
 have hb := Bool.and_eq_true_iff.1 ha.2
 have hc := Bool.and_eq_true_iff.1 hb.2
 obtain ⟨g1, g2, g3, g4, _⟩ := lk_good (eq_of_beq ha.1)
 obtain ⟨k1, k2, k3⟩ := lkB_parts g1
 obtain ⟨s1, s2⟩ := doc_same (p := p) g1
 have hT : b7T p f l = dS p f l := by
  unfold b7T
  rw [if_pos h1]
  unfold dS headT7
  rw [s2, show (12 + ((layT (bl7 p f l) true).size : Int) - 8) = 4 + ((layT (bl7 p f l) true).size : Int) from by omega]
 refine ⟨⟨k2, (form_kind k1).2, by rw [← (form_kind k1).1]; exact g2, ?_, by rw [← hT]; exact h3, by rw [← hT]; exact h4, by rw [← hT]; exact h5, by rw [← hT]; exact h6⟩, hT⟩
 rw [s2]
 have hd := (Bool.and_eq_true_iff.1 hc.2).2
 exact eq_of_beq (Bool.and_eq_true_iff.1 hd).1
theorem doc_back {p : Pcm} {f : ByteArray} {l : List Chk} (h : DocOk p f l) : b7E p f l = 0 ∧ b7T p f l = dS p f l := by
 have := back7 _ h.r
 rw [h.hp, h.hf, h.hl] at this
 exact this
theorem doc_not {p : Pcm} {f : ByteArray} {l : List Chk} (hf : fitsN 2 p = 0) (h : ¬ DocOk p f l) : b7E p f l = 60 ∧ b7T p f l = ⟨#[]⟩ := by
 have hE : b7E p f l = 60 := by
  unfold b7E
  rw [if_pos hf]
  cases hk : ok7 p f l
  ·rfl
  ·exact absurd (doc_ok p f l hf hk).1 h
 refine ⟨hE, ?_⟩
 unfold b7T
 rw [hE]
 rfl

end Go.Proofs.YtaepgjheknkojaaGreat
