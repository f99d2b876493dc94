/- Own text: the walk of filled. the walks of mayStand, sizeOf, told. -/
import Derived.Test.YtfnkdahocehilaaGreatQ6read
import Derived.Laws.MakeOwn
import Derived.Test.YtfnkdahocehilaaGreatG17x
namespace Go.Proofs.YtfnkdahocehilaaGreat
open Go.RowKit
set_option linter.unusedSimpArgs false
set_option linter.unusedVariables false

def fillC (s : ByteArray) (c : Chk) : Chk := if c.id.toList == idData.toList then ⟨c.id, s, c.pad⟩ else c
def fillOk (c : Chk) : Bool := !(c.id.toList == idData.toList) || c.body.toList.isEmpty
def fillB (l : List Chk) : Bool := decide (l.length ≤ 1024) && l.all fillOk
/-- The row that is filled, as far as k. -/
structure Fl (w0 : World) (n : Nat) (X : List Chk) (k : Nat) (w : World) : Prop where
  row : ∃ A, w.heap[w0.heap.size]? = some (.cells A 52 (0, 0)) ∧ A.size = n * 3 ∧ ∀ i c, i < k → X[i]? = some c → A[i * 3]? = some (.string c.id) ∧ A[i * 3 + 1]? = some (.string c.body) ∧ A[i * 3 + 2]? = some (.int .i64 c.pad)
  below : Below w0.heap.size w0 w
theorem Fl.next {w0 w w1 : World} {n : Nat} {X : List Chk} {k : Nat} (h : Fl w0 n X k w) (hB : Below w.heap.size w w1) : Fl w0 n X k w1 := by
  obtain ⟨A, h1, h2⟩ := h.row
  exact ⟨⟨A, (hB.block _ (lt_of_block h1)).trans h1, h2⟩, h.below.trans (hB.mono h.below.size)⟩
theorem Fl.lt {w0 w : World} {n : Nat} {X : List Chk} {k : Nat} (h : Fl w0 n X k w) : w0.heap.size < w.heap.size := by
  obtain ⟨A, h1, _⟩ := h.row
  exact lt_of_block h1
theorem Fl.cell {w0 w : World} {n : Nat} {X : List Chk} {k : Nat} (h : Fl w0 n X k w) (j : Nat) (hj : j < n * 3) : ∃ v, w.cell? ⟨w0.heap.size, j, none⟩ = some v := by
  obtain ⟨A, h1, h2, _⟩ := h.row
  exact ⟨_, by rw [cell_of_row _ _ _ _ _ _ h1, Array.getElem?_eq_getElem (by omega)]⟩
theorem Fl.z {w0 w : World} {n : Nat} {X : List Chk} {k : Nat} (h : Fl w0 n X k w) (j : Nat) : w.frozen? ⟨w0.heap.size, j, none⟩ = false := by
  obtain ⟨A, h1, _⟩ := h.row
  simp [World.frozen?, h1]
theorem Fl.set {w0 w : World} {n : Nat} {X : List Chk} {k : Nat} (h : Fl w0 n X k w) (hk : k < n) (c : Chk) (hc : X[k]? = some c) :
    Fl w0 n X (k + 1) (((w.setCell ⟨w0.heap.size, k * 3, none⟩ (.string c.id)).setCell ⟨w0.heap.size, k * 3 + 1, none⟩ (.string c.body)).setCell ⟨w0.heap.size, k * 3 + 2, none⟩ (.int .i64 c.pad)) := by
  obtain ⟨A, h1, h2, h3⟩ := h.row
  refine ⟨⟨_, block_set _ _ _ _ _ _ (block_set _ _ _ _ _ _ (block_set _ _ _ _ _ _ h1)), by simp [h2], fun i d hi hd => ?_⟩, ((h.below.setCell (Nat.le_refl _) _).setCell (Nat.le_refl _) _).setCell (Nat.le_refl _) _⟩
  by_cases e : i = k
  · subst e
    rw [hc] at hd
    cases hd
    simp only [Array.getElem?_setIfInBounds, Array.size_setIfInBounds, h2]
    refine ⟨?_, ?_, ?_⟩
    · rw [if_neg (by omega), if_neg (by omega), if_pos trivial, if_pos (by omega)]
    · rw [if_neg (by omega), if_pos trivial, if_pos (by omega)]
    · rw [if_pos trivial, if_pos (by omega)]
  · obtain ⟨g1, g2, g3⟩ := h3 i d (by omega) hd
    simp only [Array.getElem?_setIfInBounds, Array.size_setIfInBounds, h2]
    refine ⟨?_, ?_, ?_⟩
    · rw [if_neg (by omega), if_neg (by omega), if_neg (by omega)]; exact g1
    · rw [if_neg (by omega), if_neg (by omega), if_neg (by omega)]; exact g2
    · rw [if_neg (by omega), if_neg (by omega), if_neg (by omega)]; exact g3
theorem Fl.at {w0 w : World} {n : Nat} {X : List Chk} (h : Fl w0 n X X.length w) : ChksAt w (some ⟨w0.heap.size, 0, none⟩) X := by
  obtain ⟨A, h1, h2, h3⟩ := h.row
  refine ⟨fun _ => ⟨w0.heap.size, 0, rfl, fun i c hi => ?_⟩⟩
  obtain ⟨g1, g2, g3⟩ := h3 i c (List.getElem?_eq_some_iff.1 hi).1 hi
  rw [Nat.zero_add]
  exact ⟨by rw [cell_of_row _ _ _ _ _ _ h1]; exact g1, by rw [cell_of_row _ _ _ _ _ _ h1]; exact g2, by rw [cell_of_row _ _ _ _ _ _ h1]; exact g3⟩
/-- Memory that is there. -/
def LtC (B : Nat) (ao : Option Addr) : Prop := ∀ b off, ao = some ⟨b, off, none⟩ → b < B
/-- What filled answers. -/
def GivesF (w : World) (l : List Chk) (s : ByteArray) (e : Ending) (w' : World) : Prop := Below w.heap.size w w' ∧ ((fillB l = true ∧ ∃ ao cap, e = .returned (.tuple #[.slice ao l.length cap, .bool true]) ∧ ChksAt w' ao (l.map (fillC s)) ∧ LtC w'.heap.size ao) ∨ (fillB l = false ∧ e = .returned (.tuple #[.slice none 0 0, .bool false])))

set_option maxRecDepth 20000 in
set_option maxHeartbeats 6400000 in
theorem filled_spec (l : List Chk) (s : ByteArray) (ao : Option Addr) (cap : Nat) (w : World) (hl : ChksAt w ao l) :
    Calls Tryz.prog 37 #[.slice ao l.length cap, .string s] w (GivesF w l s) := by
  by_cases h1024 : l.length ≤ 1024
  · obtain ⟨iK, hK0, hK1, hK2, hK3⟩ := info_parts5 infoK3
    obtain ⟨M, hM⟩ : ∃ M, M = madeCells (Value.agg zeroK).cells (((l.length : Nat) : Int).toNat * iK.size) := ⟨_, rfl⟩
    have hMs : M.size = l.length * 3 := by rw [hM, size_madeCells, hK2]; simp
    have hmk : ∀ W : World, (Instr.makeSlice 22 (.int .i64 (l.length : Int)) (.int .i64 (l.length : Int))).run Tryz.prog W = .ok (.slice (some ⟨W.heap.size, 0, none⟩) l.length l.length) (W.alloc (.cells M 52)) := fun W => by
      have h := run_make (P := Tryz.prog) W 22 52 iK (.agg zeroK) Tryz.underlying22 hK0 hK1 .i64 .i64 (l.length : Int) (l.length : Int) (by omega) (by omega) (by rw [hK3]; omega) (by omega)
      rw [← hM] at h
      simpa using h
    have HFL : Hid (Fl w l.length (l.map (fillC s)) 0 (w.alloc (.cells M 52))) := ⟨⟨M, heap_alloc_new w _, hMs, fun i c hi => absurd hi (Nat.not_lt_zero _)⟩, (Below.refl _ _).alloc (Nat.le_refl _) _⟩
    have HL : Hid (ChksAt w ao l) := hl
    clear hl hM hMs hK0 hK1 hK2 hK3
    go_enter Tryz.func37, Tryz.ntmps37
    go_wp2_with fail
    go_loopw [17] (fun t wr => ∃ k : Nat, k ≤ l.length ∧ t = .int .i64 (k : Int) ∧ (∀ (j : Nat) (c : Chk), j < k → l[j]? = some c → fillOk c = true) ∧ Fl w l.length (l.map (fillC s)) k wr) (fun t _ => l.length - (intOf t).toNat)
    case atStart => exact ⟨0, Nat.zero_le _, rfl, fun j c h => absurd h (Nat.not_lt_zero _), HFL.out⟩
    case round =>
      clear HFL
      obtain ⟨k, hk, rfl, hall, hF⟩ := hrel
      have HALL : Hid (∀ (j : Nat) (c : Chk), j < k → l[j]? = some c → fillOk c = true) := hall
      have HF : Hid (Fl w l.length (l.map (fillC s)) k wr) := hF
      clear hall hF hmk
      by_cases hlt : k < l.length
      · obtain ⟨c, hc⟩ : ∃ c, l[k]? = some c := ⟨_, List.getElem?_eq_getElem hlt⟩
        obtain ⟨b, off, rfl, hcl⟩ := HL.out.at k c hc
        obtain ⟨x0, x1, x2⟩ := hcl wr HF.out.below
        have HXC : Hid ((l.map (fillC s))[k]? = some (fillC s c)) := by show _ = _; rw [List.getElem?_map, hc]; rfl
        have HNO : Hid (fillOk c = false → fillB l = false) := fun q => by
          unfold fillB
          rw [show l.all fillOk = false from List.all_eq_false.2 ⟨c, List.mem_of_getElem? hc, by rw [q]; decide⟩, Bool.and_false]
        have HYE : Hid (fillOk c = true → ∀ (j : Nat) (c : Chk), j < k + 1 → l[j]? = some c → fillOk c = true) := fun q j d hj hd => by
          by_cases e : j = k
          · subst e
            rw [hc] at hd
            cases hd
            exact q
          · exact HALL.out j d (by omega) hd
        have HFO : Hid (fillOk c = (!(c.id.toList == [100, 97, 116, 97]) || c.body.toList.isEmpty)) := by show _ = _; unfold fillOk; rw [idData_list]
        have hkn : k * 3 + 2 < l.length * 3 := by omega
        have lo := HF.out.lt
        have HFa : ∀ d, Hid (Fl w l.length (l.map (fillC s)) k (wr.alloc (.cells (chkC d) 52))) := fun d => HF.out.next ((Below.refl _ _).alloc (Nat.le_refl _) _)
        clear hcl hc HALL
        cases hd : c.id.toList == [100, 97, 116, 97]
        · have HFC : Hid (fillC s c = c) := by show _ = _; unfold fillC; rw [idData_list, hd]; rfl
          have HY := HYE.out (by rw [HFO.out, hd]; rfl)
          have HYY : Hid _ := HY
          obtain ⟨v0, y0⟩ := HF.out.cell (k * 3) (by omega)
          obtain ⟨v1, y1⟩ := HF.out.cell (k * 3 + 1) (by omega)
          obtain ⟨v2, y2⟩ := HF.out.cell (k * 3 + 2) (by omega)
          have z0 := HF.out.z (k * 3)
          have z1 := HF.out.z (k * 3 + 1)
          have z2 := HF.out.z (k * 3 + 2)
          clear HNO HYE HY HFO
          have HFN : Hid (Fl w l.length (l.map (fillC s)) (k + 1) ((((wr.setCell ⟨w.heap.size, k * 3, none⟩ (.string c.id)).setCell ⟨w.heap.size, k * 3 + 1, none⟩ (.string c.body)).setCell ⟨w.heap.size, k * 3 + 2, none⟩ (.int .i64 c.pad)).alloc (.cells (chkC c) 52))) := (HF.out.set hlt c (HXC.out.trans (by rw [HFC.out]))).next ((Below.refl _ _).alloc (Nat.le_refl _) _)
          go_wp2_with fail
          go_roundw
          case rel => exact ⟨k + 1, by omega, by go_num, HYY.out, HFN.out⟩
          case measure => simp [intOf]; omega
        · have HFC : Hid (fillC s c = ⟨c.id, s, c.pad⟩) := by show _ = _; unfold fillC; rw [idData_list, hd]; rfl
          cases he : c.body.toList.isEmpty
          · have HN : Hid (fillB l = false) := HNO.out (by rw [HFO.out, hd, he]; rfl)
            clear HNO HYE HFO
            go_wp2_with fail
            go_ret2
            exact ⟨((HFa c).out).below, Or.inr ⟨HN.out, rfl⟩⟩
          · have HY := HYE.out (by rw [HFO.out, hd, he]; rfl)
            have HYY : Hid _ := HY
            clear HNO HYE HY HFO
            obtain ⟨v0, y0⟩ := HF.out.cell (k * 3) (by omega)
            obtain ⟨v1, y1⟩ := HF.out.cell (k * 3 + 1) (by omega)
            obtain ⟨v2, y2⟩ := HF.out.cell (k * 3 + 2) (by omega)
            have z0 := HF.out.z (k * 3)
            have z1 := HF.out.z (k * 3 + 1)
            have z2 := HF.out.z (k * 3 + 2)
            have HFN : Hid (Fl w l.length (l.map (fillC s)) (k + 1) ((((wr.setCell ⟨w.heap.size, k * 3, none⟩ (.string c.id)).setCell ⟨w.heap.size, k * 3 + 1, none⟩ (.string s)).setCell ⟨w.heap.size, k * 3 + 2, none⟩ (.int .i64 c.pad)).alloc (.cells #[.string c.id, .string s, .int .i64 c.pad] 52))) := (HF.out.set hlt ⟨c.id, s, c.pad⟩ (HXC.out.trans (by rw [HFC.out]))).next ((Below.refl _ _).alloc (Nat.le_refl _) _)
            go_wp2_with fail
            go_roundw
            case rel => exact ⟨k + 1, by omega, by go_num, HYY.out, HFN.out⟩
            case measure => simp [intOf]; omega
      · have hke : k = l.length := by omega
        subst hke
        have HN : Hid (fillB l = true) := by
          show _ = _
          unfold fillB
          rw [decide_eq_true h1024, List.all_eq_true.2 fun c hc => by
            obtain ⟨i, hi⟩ := List.mem_iff_getElem?.1 hc
            exact HALL.out i c (List.getElem?_eq_some_iff.1 hi).1 hi]
          rfl
        have HAT : Hid (ChksAt wr (some ⟨w.heap.size, 0, none⟩) (l.map (fillC s))) := by
          have := HF.out
          rw [show l.length = (l.map (fillC s)).length from by simp] at this
          exact Fl.at (n := (l.map (fillC s)).length) this
        clear HALL
        go_wp2_with fail
        go_ret2
        exact ⟨HF.out.below, Or.inl ⟨HN.out, _, _, rfl, HAT.out, fun b off q => by cases q; exact HF.out.lt⟩⟩
  · have HN : Hid (fillB l = false) := by show _ = _; unfold fillB; rw [decide_eq_false h1024]; rfl
    go_enter Tryz.func37, Tryz.ntmps37
    go_wp2_with fail
    go_ret2
    exact ⟨Below.refl _ _, Or.inr ⟨HN.out, rfl⟩⟩

end Go.Proofs.YtfnkdahocehilaaGreat

namespace Go.Proofs.YtfnkdahocehilaaGreat
open Go.RowKit
set_option linter.unusedSimpArgs false
set_option linter.unusedVariables false

/-- Chunks whose texts a machine can hold. -/
def FairL (l : List Chk) : Prop := ∀ c ∈ l, c.id.size ≤ 140737488351232 ∧ c.body.size ≤ 140737488351232
def standB (l : List Chk) : Bool := decide (l.length ≤ 1024) && layAll l
theorem standB_many (l : List Chk) (h : ¬ l.length ≤ 1024) : standB l = false := by unfold standB; rw [decide_eq_false h]; rfl
theorem standB_no (l : List Chk) (i : Nat) (c : Chk) (hi : l[i]? = some c) (h : layOk c (decide (i + 1 = l.length)) = false) : standB l = false := by
  cases hq : standB l
  · rfl
  · unfold standB at hq
    rw [(layAll_iff l).1 (Bool.and_eq_true_iff.1 hq).2 i c hi] at h
    cases h
theorem standB_yes (l : List Chk) (hl : l.length ≤ 1024) (h : ∀ (i : Nat) (c : Chk), l[i]? = some c → layOk c (decide (i + 1 = l.length)) = true) : standB l = true := by
  unfold standB
  rw [decide_eq_true hl, (layAll_iff l).2 h]
  rfl
theorem last_eq (k n : Nat) : ((k : Int) == (n : Int) - 1) = decide (k + 1 = n) := by
  rw [Bool.eq_iff_iff, beq_iff_eq, decide_eq_true_iff]
  omega

set_option maxRecDepth 20000 in
set_option maxHeartbeats 3200000 in
theorem mayStand_spec (l : List Chk) (ao : Option Addr) (cap : Nat) (w : World) (hl : ChksAt w ao l) (hf : FairL l) (hll : l.length ≤ 9000000000000000) :
    Calls Tryz.prog 23 #[.slice ao l.length cap] w fun e w' => e = .returned (.bool (standB l)) ∧ Below w.heap.size w w' := by
  have HL : Hid (ChksAt w ao l) := hl
  have HF : Hid (FairL l) := hf
  clear hl hf
  by_cases h1024 : l.length ≤ 1024
  · go_enter Tryz.func23, Tryz.ntmps23
    go_wp2_with fail
    go_loopw [11] (fun t wr => ∃ k : Nat, k ≤ l.length ∧ t = .int .i64 (k : Int) ∧ (∀ (j : Nat) (c : Chk), j < k → l[j]? = some c → layOk c (decide (j + 1 = l.length)) = true) ∧ Below w.heap.size w wr) (fun t _ => l.length - (intOf t).toNat)
    case atStart => exact ⟨0, Nat.zero_le _, rfl, fun j c h => absurd h (Nat.not_lt_zero _), Below.refl _ _⟩
    case round =>
      obtain ⟨k, hk, rfl, hall, hB⟩ := hrel
      have HALL : Hid (∀ (j : Nat) (c : Chk), j < k → l[j]? = some c → layOk c (decide (j + 1 = l.length)) = true) := hall
      have HB : Hid (Below w.heap.size w wr) := hB
      clear hall hB
      by_cases hlt : k < l.length
      · obtain ⟨c, hc⟩ : ∃ c, l[k]? = some c := ⟨_, List.getElem?_eq_getElem hlt⟩
        have hcm : c ∈ l := List.mem_of_getElem? hc
        obtain ⟨b, off, rfl, hcl⟩ := HL.out.at k c hc
        obtain ⟨x0, x1, x2⟩ := hcl wr HB.out
        have ki := isId_spec c.id (by have := (HF.out c hcm).1; omega) (wr.alloc (.cells (chkC c) 52))
        have HBa : Hid (Below w.heap.size w (wr.alloc (.cells (chkC c) 52))) := HB.out.alloc HB.out.size _
        have kp := mayHavePad_spec c (decide (k + 1 = l.length)) (wr.alloc (.cells (chkC c) 52))
        have hlast := last_eq k l.length
        have HK : Hid (layOk c (decide (k + 1 = l.length)) = (idB c.id && padOk c (decide (k + 1 = l.length)))) := layOk_eq _ _
        have HNO : Hid (layOk c (decide (k + 1 = l.length)) = false → standB l = false) := fun q => standB_no l k c hc q
        have HYE : Hid (layOk c (decide (k + 1 = l.length)) = true → ∀ (j : Nat) (c : Chk), j < k + 1 → l[j]? = some c → layOk c (decide (j + 1 = l.length)) = true) := fun q j d hj hd => by
          by_cases e : j = k
          · subst e
            rw [hc] at hd
            cases hd
            exact q
          · exact HALL.out j d (by omega) hd
        generalize decide (k + 1 = l.length) = lb at *
        clear hcl hc hcm HALL
        cases hid : idB c.id
        · have HN : Hid (standB l = false) := HNO.out (by rw [HK.out, hid]; rfl)
          rw [hid] at ki
          clear HNO HYE HK kp
          go_wp2_with fail
          refine ki.mono ?_
          rintro e w2 ⟨rfl, rfl⟩
          clear ki
          go_wp2_with fail
          go_ret
          exact ⟨by rw [HN.out]; rfl, HBa.out⟩
        · rw [hid] at ki
          cases hp : padOk c lb
          · have HN : Hid (standB l = false) := HNO.out (by rw [HK.out, hid, hp]; rfl)
            rw [hp] at kp
            clear HNO HYE HK
            go_wp2_with fail
            refine ki.mono ?_
            rintro e w2 ⟨rfl, rfl⟩
            clear ki
            go_wp2_with fail
            refine kp.mono ?_
            rintro e w3 ⟨rfl, hB3⟩
            have HB3 : Hid (Below w.heap.size w w3) := HBa.out.trans (hB3.mono HBa.out.size)
            clear kp hB3
            go_wp2_with fail
            go_ret
            exact ⟨by rw [HN.out]; rfl, HB3.out⟩
          · have HY := HYE.out (by rw [HK.out, hid, hp]; rfl)
            have HYY : Hid _ := HY
            rw [hp] at kp
            clear HNO HYE HK HY
            go_wp2_with fail
            refine ki.mono ?_
            rintro e w2 ⟨rfl, rfl⟩
            clear ki
            go_wp2_with fail
            refine kp.mono ?_
            rintro e w3 ⟨rfl, hB3⟩
            have HB3 : Hid (Below w.heap.size w w3) := HBa.out.trans (hB3.mono HBa.out.size)
            clear kp hB3
            go_wp2_with fail
            go_roundw
            case rel => exact ⟨k + 1, by omega, by go_num, HYY.out, HB3.out⟩
            case measure => simp [intOf]; omega
      · have HN : Hid (standB l = true) := standB_yes l h1024 (fun i c hi => HALL.out i c (by have := (List.getElem?_eq_some_iff.1 hi).1; omega) hi)
        clear HALL
        go_wp2_with fail
        go_ret
        exact ⟨by rw [HN.out]; rfl, HB.out⟩
  · have HN : Hid (standB l = false) := standB_many l h1024
    go_enter Tryz.func23, Tryz.ntmps23
    go_wp2_with fail
    go_ret
    exact ⟨by rw [HN.out]; rfl, Below.refl _ _⟩

/-- How many bytes a chunk has. -/
def sizeC (c : Chk) : Nat := 8 + c.body.size + (if hasPadB c then 1 else 0)
def sizeL (l : List Chk) : Nat := (l.map sizeC).sum
theorem sizeL_take (l : List Chk) (k : Nat) (c : Chk) (h : l[k]? = some c) : sizeL (l.take (k + 1)) = sizeL (l.take k) + sizeC c := by
  obtain ⟨hi, rfl⟩ := List.getElem?_eq_some_iff.1 h
  unfold sizeL
  rw [List.take_succ_eq_append_getElem hi, List.map_append, List.sum_append]
  simp
theorem sizeL_le (l : List Chk) (k : Nat) : sizeL (l.take k) ≤ sizeL l := by
  have e : sizeL l = sizeL (l.take k) + sizeL (l.drop k) := by
    unfold sizeL
    rw [← List.sum_append, ← List.map_append, List.take_append_drop]
  omega

set_option maxRecDepth 20000 in
set_option maxHeartbeats 3200000 in
theorem sizeOf_spec (l : List Chk) (ao : Option Addr) (cap : Nat) (w : World) (hl : ChksAt w ao l) (hll : l.length ≤ 9000000000000000) (hsz : sizeL l ≤ 4000000000000000000) :
    Calls Tryz.prog 38 #[.slice ao l.length cap] w fun e w' => e = .returned (.int .i64 (sizeL l : Int)) ∧ Below w.heap.size w w' := by
  have HL : Hid (ChksAt w ao l) := hl
  clear hl
  go_enter Tryz.func38, Tryz.ntmps38
  go_wp2_with fail
  go_loopw [3, 8] (fun v t wr => ∃ k : Nat, k ≤ l.length ∧ t = .int .i64 (k : Int) ∧ v = .int .i64 (sizeL (l.take k) : Int) ∧ Below w.heap.size w wr) (fun _ t _ => l.length - (intOf t).toNat)
  case atStart => exact ⟨0, Nat.zero_le _, rfl, rfl, Below.refl _ _⟩
  case round =>
    obtain ⟨k, hk, rfl, rfl, hB⟩ := hrel
    have HB : Hid (Below w.heap.size w wr) := hB
    clear hB
    by_cases hlt : k < l.length
    · obtain ⟨c, hc⟩ : ∃ c, l[k]? = some c := ⟨_, List.getElem?_eq_getElem hlt⟩
      obtain ⟨b, off, rfl, hcl⟩ := HL.out.at k c hc
      obtain ⟨x0, x1, x2⟩ := hcl wr HB.out
      have HST : Hid (sizeL (l.take (k + 1)) = sizeL (l.take k) + (8 + c.body.size + (if hasPadB c then 1 else 0))) := sizeL_take l k c hc
      have hle := sizeL_le l (k + 1)
      have hle2 : sizeL (l.take k) + (8 + c.body.size + (if hasPadB c then 1 else 0)) ≤ 4000000000000000000 := by have := HST.out; omega
      have kp := hasPad_spec c (wr.alloc (.cells (chkC c) 52))
      have HBa : Hid (Below w.heap.size w (wr.alloc (.cells (chkC c) 52))) := HB.out.alloc HB.out.size _
      obtain ⟨S1, hS1⟩ : ∃ S1, sizeL (l.take (k + 1)) = S1 := ⟨_, rfl⟩
      have HSS : Hid (sizeL (l.take (k + 1)) = S1) := hS1
      rw [hS1] at HST hle
      clear hS1
      generalize hS0 : sizeL (l.take k) = S0 at *
      clear hcl hc hS0 HB
      cases hp : hasPadB c
      · rw [hp] at kp HST hle2
        have h3 : S0 + (8 + c.body.size) ≤ 4000000000000000000 := by simpa using hle2
        have HS1 : Hid ((S1 : Int) = (S0 : Int) + (8 + (c.body.size : Int))) := by
          show _ = _
          rw [HST.out]
          simp
        clear hle2 HST
        go_wp2_with fail
        refine kp.mono ?_
        rintro e w3 ⟨rfl, hB3⟩
        have HB3 : Hid (Below w.heap.size w w3) := HBa.out.trans (hB3.mono HBa.out.size)
        clear kp hB3
        go_wp2_with fail
        go_roundw
        case rel => exact ⟨k + 1, by omega, by go_num, by rw [HSS.out, HS1.out], HB3.out⟩
        case measure => simp [intOf]; omega
      · rw [hp] at kp HST hle2
        have h3 : S0 + (8 + c.body.size + 1) ≤ 4000000000000000000 := by simpa using hle2
        have HS1 : Hid ((S1 : Int) = (S0 : Int) + (8 + (c.body.size : Int)) + 1) := by
          show _ = _
          rw [HST.out]
          simp
          omega
        clear hle2 HST
        go_wp2_with fail
        refine kp.mono ?_
        rintro e w3 ⟨rfl, hB3⟩
        have HB3 : Hid (Below w.heap.size w w3) := HBa.out.trans (hB3.mono HBa.out.size)
        clear kp hB3
        go_wp2_with fail
        go_roundw
        case rel => exact ⟨k + 1, by omega, by go_num, by rw [HSS.out, HS1.out], HB3.out⟩
        case measure => simp [intOf]; omega
    · have hke : k = l.length := by omega
      subst hke
      rw [List.take_length]
      go_wp2_with fail
      go_ret
      exact ⟨rfl, HB.out⟩

theorem toT_false (n : Int) : toT n false = leT n 4 := rfl
theorem toT_true (n : Int) : toT n true = beT n 4 := rfl
/-- What stands for a Body's length. -/
def toldN (z : Siz) (c : Chk) : Int := if c.id.toList == z.far.toList then 4294967295 else (c.body.size : Int)
def toldT (z : Siz) (c : Chk) : ByteArray := toT (toldN z c) z.big
set_option maxRecDepth 20000 in
set_option maxHeartbeats 3200000 in
theorem told_spec (z : Siz) (c : Chk) (hb : c.body.size ≤ 140737488351232) (w : World) :
    Calls Tryz.prog 54 #[.agg (sizC z), chkV c] w fun e w' => e = .returned (.string (toldT z c)) ∧ Below w.heap.size w w' := by
  have HB : Hid (Below w.heap.size w ((w.alloc (.cells (sizC z) 55)).alloc (.cells (chkC c) 52))) := ((Below.refl _ _).alloc (Nat.le_refl _) _).alloc (by simp) _
  obtain ⟨big, far, fl⟩ := z
  have kb := fun n h1 h2 => be_spec n 4 h1 h2 ((w.alloc (.cells (sizC ⟨big, far, fl⟩) 55)).alloc (.cells (chkC c) 52))
  have kl := fun n h1 h2 => le_spec n 4 h1 h2 ((w.alloc (.cells (sizC ⟨big, far, fl⟩) 55)).alloc (.cells (chkC c) 52))
  cases hq : c.id.toList == far.toList
  · have HN : Hid (toldN ⟨big, far, fl⟩ c = (c.body.size : Int)) := by show _ = _; unfold toldN; rw [hq]; rfl
    cases big
    · have HT : Hid (toldT ⟨false, far, fl⟩ c = leT (c.body.size : Int) 4) := by show toldT _ _ = _; unfold toldT; rw [HN.out]; exact toT_false _
      have k := kl (c.body.size : Int) (by omega) (by omega)
      generalize leT (c.body.size : Int) 4 = TT at *
      generalize wE (c.body.size : Int) 4 = EE at *
      clear kb kl
      go_enter Tryz.func54, Tryz.ntmps54
      go_wp2_with fail
      refine k.mono ?_
      rintro e w2 ⟨rfl, hB2⟩
      have HB2 : Hid (Below w.heap.size w w2) := HB.out.trans (hB2.mono HB.out.size)
      clear k hB2
      go_wp2_with fail
      go_ret
      exact ⟨by rw [HT.out]; rfl, HB2.out⟩
    · have HT : Hid (toldT ⟨true, far, fl⟩ c = beT (c.body.size : Int) 4) := by show toldT _ _ = _; unfold toldT; rw [HN.out]; exact toT_true _
      have k := kb (c.body.size : Int) (by omega) (by omega)
      generalize beT (c.body.size : Int) 4 = TT at *
      generalize wE (c.body.size : Int) 4 = EE at *
      clear kb kl
      go_enter Tryz.func54, Tryz.ntmps54
      go_wp2_with fail
      refine k.mono ?_
      rintro e w2 ⟨rfl, hB2⟩
      have HB2 : Hid (Below w.heap.size w w2) := HB.out.trans (hB2.mono HB.out.size)
      clear k hB2
      go_wp2_with fail
      go_ret
      exact ⟨by rw [HT.out]; rfl, HB2.out⟩
  · have HN : Hid (toldN ⟨big, far, fl⟩ c = 4294967295) := by show _ = _; unfold toldN; rw [hq]; rfl
    cases big
    · have HT : Hid (toldT ⟨false, far, fl⟩ c = leT 4294967295 4) := by show toldT _ _ = _; unfold toldT; rw [HN.out]; exact toT_false _
      have k := kl 4294967295 (by decide) (by decide)
      generalize leT 4294967295 4 = TT at *
      generalize wE 4294967295 4 = EE at *
      clear kb kl
      go_enter Tryz.func54, Tryz.ntmps54
      go_wp2_with fail
      refine k.mono ?_
      rintro e w2 ⟨rfl, hB2⟩
      have HB2 : Hid (Below w.heap.size w w2) := HB.out.trans (hB2.mono HB.out.size)
      clear k hB2
      go_wp2_with fail
      go_ret
      exact ⟨by rw [HT.out]; rfl, HB2.out⟩
    · have HT : Hid (toldT ⟨true, far, fl⟩ c = beT 4294967295 4) := by show toldT _ _ = _; unfold toldT; rw [HN.out]; exact toT_true _
      have k := kb 4294967295 (by decide) (by decide)
      generalize beT 4294967295 4 = TT at *
      generalize wE 4294967295 4 = EE at *
      clear kb kl
      go_enter Tryz.func54, Tryz.ntmps54
      go_wp2_with fail
      refine k.mono ?_
      rintro e w2 ⟨rfl, hB2⟩
      have HB2 : Hid (Below w.heap.size w w2) := HB.out.trans (hB2.mono HB.out.size)
      clear k hB2
      go_wp2_with fail
      go_ret
      exact ⟨by rw [HT.out]; rfl, HB2.out⟩

end Go.Proofs.YtfnkdahocehilaaGreat
