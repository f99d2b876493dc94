/- Own text: the document's Parse (aiff). -/
import Derived.Test.YtaepgjheknkojaaGreatR7parseb
import Derived.Test.YtaepgjheknkojaaGreatG43x
namespace Go.Proofs.YtaepgjheknkojaaGreat
open Go.RowKit
set_option linter.unusedSimpArgs false
set_option linter.unusedVariables false

theorem r7parse_spec (s : ByteArray) (w : World) (hs : s.size ≤ 140737488351232) : Calls Tryz.prog 7 #[.string s] w (GivesB7 w s) := by
 have fin : ∀ err : Int, err ≠ 0 → opE s = err → (Calls Tryz.prog 7 #[.string s] w fun e w' => e = .returned (.tuple #[.agg zeroP7, .agg zeroW, .int .i64 err]) ∧ Below w.heap.size w w') → Calls Tryz.prog 7 #[.string s] w (GivesB7 w s) := fun err hn ho h => h.mono fun e w' q => by
  obtain ⟨rfl, hB⟩ := q
  exact givesE w s err w' (by unfold p7E; rw [if_neg (by rw [ho]; exact hn), ho]) hn hB
 by_cases h12 : 12 ≤ s.size
 ·have hlt : decide ((s.size : Int) < 12) = false := decide_eq_false (by omega)
  cases h1 : (s.extract 0 4).toList == formT.toList
  ·exact fin 3 (by decide) (by unfold opE begB7; rw [hlt, h1]; rfl) (r7parse_noform s w hs h12 h1)
  ·cases h2 : (s.extract 8 12).toList == aiffT.toList
   ·cases h3 : (s.extract 8 12).toList == aifcT.toList
    ·exact fin 3 (by decide) (by unfold opE begB7; rw [hlt, h1, h2, h3]; rfl) (r7parse_nokind s w hs h12 h1 h2 h3)
    ·have hbg : begB7 s = true := by unfold begB7; rw [hlt, h1, h2, h3]; rfl
     by_cases h4 : 67108864 < s.size
     ·exact fin 5 (by decide) (by unfold opE; rw [hbg, if_pos rfl, if_pos h4]) (r7parse_large_aifc s w hs h12 h1 h2 h3 h4)
     ·cases h5 : beI s 4 8 != (s.size : Int) - 8
      ·have hoe : opE s = (chunksN (s.extract 12 s.size) true).2 := by unfold opE; rw [hbg, if_pos rfl, if_neg h4, h5]; rfl
       cases h6 : (chunksN (s.extract 12 s.size) true).2 != 0
       ·exact r7parse_main s w hs h12 h1 (Or.inr ⟨h2, h3⟩) h4 h5 (hoe.trans (by simpa using h6)) (by show ((s.extract 8 12).toList == aiffT.toList || (s.extract 8 12).toList == aifcT.toList) = true; rw [h2, h3]; rfl)
       ·exact fin _ (by simpa using h6) hoe (r7parse_chunks_aifc s w hs h12 h1 h2 h3 h4 h5 h6)
      ·exact fin 2 (by decide) (by unfold opE; rw [hbg, if_pos rfl, if_neg h4, h5]; rfl) (r7parse_len_aifc s w hs h12 h1 h2 h3 h4 h5)
   ·have hbg : begB7 s = true := by unfold begB7; rw [hlt, h1, h2]; rfl
    by_cases h4 : 67108864 < s.size
    ·exact fin 5 (by decide) (by unfold opE; rw [hbg, if_pos rfl, if_pos h4]) (r7parse_large_aiff s w hs h12 h1 h2 h4)
    ·cases h5 : beI s 4 8 != (s.size : Int) - 8
     ·have hoe : opE s = (chunksN (s.extract 12 s.size) true).2 := by unfold opE; rw [hbg, if_pos rfl, if_neg h4, h5]; rfl
      cases h6 : (chunksN (s.extract 12 s.size) true).2 != 0
      ·exact r7parse_main s w hs h12 h1 (Or.inl h2) h4 h5 (hoe.trans (by simpa using h6)) (by show ((s.extract 8 12).toList == aiffT.toList || (s.extract 8 12).toList == aifcT.toList) = true; rw [h2]; rfl)
      ·exact fin _ (by simpa using h6) hoe (r7parse_chunks_aiff s w hs h12 h1 h2 h4 h5 h6)
     ·exact fin 2 (by decide) (by unfold opE; rw [hbg, if_pos rfl, if_neg h4, h5]; rfl) (r7parse_len_aiff s w hs h12 h1 h2 h4 h5)
 ·exact fin 3 (by decide) (by unfold opE begB7; rw [decide_eq_true (show (s.size : Int) < 12 by omega)]; rfl) (r7parse_short s w hs (by omega))

def ansP (s : ByteArray) : Pcm := if p7E s = 0 then p7P s else ⟨0, 0, 0, []⟩
def ansF (s : ByteArray) : ByteArray := if p7E s = 0 then opF s else ⟨#[]⟩
def ansL (s : ByteArray) : List Chk := if p7E s = 0 then p7L s else []
theorem ans_of {w : World} {s : ByteArray} {e : Ending} {w' : World} (h : GivesB7 w s e w') : ∃ po pc wo wc, e = .returned (.tuple #[pcmV (ansP s) po pc, .agg (waveC (ansF s) (ansL s) wo wc), .int .i64 (p7E s)]) ∧ Below w.heap.size w w' ∧ RowsAt w' po (ansP s).pl ∧ ChksAt w' wo (ansL s) := by
 obtain ⟨q, po, pc, wf, l, wo, wc, e1, hB, hr, hc, hy, hn⟩ := h
 by_cases h0 : p7E s = 0
 ·obtain ⟨rfl, rfl, rfl⟩ := hy h0
  rw [show ansP s = p7P s from if_pos h0, show ansF s = opF s from if_pos h0, show ansL s = p7L s from if_pos h0]
  exact ⟨po, pc, wo, wc, e1, hB, hr, hc⟩
 ·obtain ⟨rfl, rfl, rfl⟩ := hn h0
  rw [show ansP s = ⟨0, 0, 0, []⟩ from if_neg h0, show ansF s = ⟨#[]⟩ from if_neg h0, show ansL s = [] from if_neg h0]
  exact ⟨po, pc, wo, wc, e1, hB, hr, hc⟩
theorem ansL_len (s : ByteArray) : (ansL s).length ≤ 9000000000000000 := by
 unfold ansL
 split
 ·rename_i h0
  obtain ⟨_, h2, _⟩ := fair_read7 s h0
  omega
 ·exact Nat.zero_le _

end Go.Proofs.YtaepgjheknkojaaGreat
