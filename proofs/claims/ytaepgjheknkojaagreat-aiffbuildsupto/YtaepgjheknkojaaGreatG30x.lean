/- Own text: the walk of soundOf (aiff). the walk of find (aiff). -/
import Derived.Test.YtaepgjheknkojaaGreatQ7soundn
import Derived.Test.YtaepgjheknkojaaGreatQ7sounds
import Derived.Test.YtaepgjheknkojaaGreatQ7small
import Derived.Test.YtaepgjheknkojaaGreatG26x
namespace Go.Proofs.YtaepgjheknkojaaGreat
open Go.RowKit
set_option linter.unusedSimpArgs false
set_option linter.unusedVariables false

theorem soundOf7_spec (f s : ByteArray) (hs : s.size ≤ 140737488351232) (w : World) :
    Calls Tryz.prog 56 #[.string f, .string s] w fun e w' => e = .returned (.tuple #[.agg (sndC7 (comR s (kB f))), .int .i64 (comE s (kB f))]) ∧ Below w.heap.size w w' := by
  cases h1 : wholeB s (kB f)
  · exact soundOf7_whole f s hs h1 w
  · cases h2 : (kindT s (kB f)).toList == noneT.toList
    · cases h3 : (kindT s (kB f)).toList == sowtT.toList
      · exact soundOf7_kind f s hs h1 h2 h3 w
      · exact soundOf7_sowt f s hs h1 h2 h3 w
    · have h3 : ((kindT s (kB f)).toList == sowtT.toList) = false := by
        rw [eq_of_beq h2, none_list, sowt_list]
        decide
      exact soundOf7_none f s hs h1 h2 h3 w

end Go.Proofs.YtaepgjheknkojaaGreat

namespace Go.Proofs.YtaepgjheknkojaaGreat
open Go.RowKit
set_option linter.unusedSimpArgs false
set_option linter.unusedVariables false

set_option maxRecDepth 20000 in
set_option maxHeartbeats 1600000 in
theorem find7_spec (l : List Chk) (id : ByteArray) (ao : Option Addr) (cap : Nat) (w : World) (hl : ChksAt w ao l) (hll : l.length ≤ 9000000000000000) :
    Calls Tryz.prog 54 #[.string id, .slice ao l.length cap] w fun e w' => e = .returned (.tuple #[.int .i64 (findN l id).1, .int .i64 (findN l id).2]) ∧ Below w.heap.size w w' := by
  have HL : Hid (ChksAt w ao l) := hl
  obtain ⟨R, hR⟩ : ∃ R, findN l id = R := ⟨_, rfl⟩
  have HR : Hid (R = findR id (l.drop 0) 0 (-1, 0)) := hR.symm
  rw [hR]
  clear hl hR
  go_enter Tryz.func54, Tryz.ntmps54
  go_wp2_with fail
  go_loopw [4, 5, 10] (fun a n t wr => ∃ (k : Nat) (x y : Int), k ≤ l.length ∧ 0 ≤ y ∧ y ≤ k ∧ a = .int .i64 x ∧ n = .int .i64 y ∧ t = .int .i64 (k : Int) ∧ R = findR id (l.drop k) k (x, y) ∧ Below w.heap.size w wr) (fun _ _ t _ => l.length - (intOf t).toNat)
  case atStart => exact ⟨0, -1, 0, Nat.zero_le _, by decide, by decide, rfl, rfl, rfl, HR.out, Below.refl _ _⟩
  case round =>
    clear HR
    obtain ⟨k, x, y, hk, hy0, hy1, rfl, rfl, rfl, hR, hB⟩ := hrel
    have HR : Hid (R = findR id (l.drop k) k (x, y)) := hR
    have HB : Hid (Below w.heap.size w wr) := hB
    clear hR hB
    by_cases hlt : k < l.length
    · obtain ⟨c, hc⟩ : ∃ c, l[k]? = some c := ⟨_, List.getElem?_eq_getElem hlt⟩
      obtain ⟨b, off, rfl, hcl⟩ := HL.out.at k c hc
      obtain ⟨x0, x1, x2⟩ := hcl wr HB.out
      have HST : Hid (R = findR id (l.drop (k + 1)) (k + 1) (if c.id.toList == id.toList then ((k : Int), y + 1) else (x, y))) := HR.out.trans (findR_step id l k c (x, y) hc)
      have HBA : Hid (Below w.heap.size w (wr.alloc (.cells (chkC c) 55))) := HB.out.alloc HB.out.size _
      clear hcl hc HR
      cases hcb : c.id.toList == id.toList
      · rw [hcb] at HST
        go_wp2_with fail
        go_roundw
        case rel => exact ⟨k + 1, x, y, by omega, hy0, by omega, rfl, rfl, by go_num, HST.out, HBA.out⟩
        case measure => simp [intOf]; omega
      · rw [hcb] at HST
        go_wp2_with fail
        go_roundw
        case rel => exact ⟨k + 1, k, y + 1, by omega, by omega, by omega, rfl, by go_num, by go_num, HST.out, HBA.out⟩
        case measure => simp [intOf]; omega
    · have HE : Hid (R = (x, y)) := HR.out.trans (by rw [List.drop_eq_nil_of_le (by omega)]; rfl)
      clear HR
      go_wp2_with fail
      go_ret2
      exact ⟨by rw [HE.out]; rfl, HB.out⟩
/-- What find tells. -/
theorem findR_range (id : ByteArray) : ∀ (l : List Chk) (k : Nat) (r : Int × Int), 0 ≤ r.2 → ((findR id l k r).1 = r.1 ∧ (findR id l k r).2 = r.2 ∧ (∀ c ∈ l, (c.id.toList == id.toList) = false)) ∨ (∃ i c, l[i]? = some c ∧ (findR id l k r).1 = ((k + i : Nat) : Int) ∧ (c.id.toList == id.toList) = true ∧ r.2 + 1 ≤ (findR id l k r).2)
  | [], k, r, _ => Or.inl ⟨rfl, rfl, fun c hc => (by cases hc)⟩
  | c :: t, k, r, h0 => by
    rw [findR]
    cases hc : c.id.toList == id.toList
    · simp only [Bool.false_eq_true, if_false]
      rcases findR_range id t (k + 1) r h0 with ⟨q1, q2, q3⟩ | ⟨i, d, q1, q2, q3, q4⟩
      · refine Or.inl ⟨q1, q2, fun d hd => ?_⟩
        rcases List.mem_cons.1 hd with rfl | hd
        · exact hc
        · exact q3 d hd
      · exact Or.inr ⟨i + 1, d, q1, by rw [q2]; congr 1; omega, q3, q4⟩
    · simp only [if_true]
      rcases findR_range id t (k + 1) ((k : Int), r.2 + 1) (by show 0 ≤ r.2 + 1; omega) with ⟨q1, q2, q3⟩ | ⟨i, d, q1, q2, q3, q4⟩
      · exact Or.inr ⟨0, c, rfl, q1, hc, by rw [q2]; exact Int.le_refl _⟩
      · exact Or.inr ⟨i + 1, d, q1, by rw [q2]; congr 1; omega, q3, by have : r.2 + 1 + 1 ≤ _ := q4; omega⟩
theorem findN_cases (l : List Chk) (id : ByteArray) : ((findN l id).1 = -1 ∧ (findN l id).2 = 0 ∧ (∀ c ∈ l, (c.id.toList == id.toList) = false)) ∨ (∃ i c, l[i]? = some c ∧ (findN l id).1 = ((i : Nat) : Int) ∧ (c.id.toList == id.toList) = true ∧ 1 ≤ (findN l id).2) := by
  rcases findR_range id l 0 (-1, 0) (by decide) with q | ⟨i, c, q1, q2, q3, q4⟩
  · exact Or.inl q
  · exact Or.inr ⟨i, c, q1, by rw [show findN l id = findR id l 0 (-1, 0) from rfl, q2, Nat.zero_add], q3, by have : (0 : Int) + 1 ≤ _ := q4; exact this⟩
theorem atC_get (l : List Chk) (i : Nat) (c : Chk) (h : l[i]? = some c) : atC l (i : Int) = c := by
  unfold atC
  rw [Int.toNat_natCast, List.getD_eq_getElem?_getD, h]
  rfl

end Go.Proofs.YtaepgjheknkojaaGreat
