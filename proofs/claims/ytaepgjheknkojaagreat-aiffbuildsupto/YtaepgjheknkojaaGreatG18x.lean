/- Own text: the walks of isId, isOdd, hasPad, mayHavePad, padOf. how long a chunk is (length), and the boxes of begin. the walk of begin, where it answers an error. -/
import Derived.Test.YtaepgjheknkojaaGreatG17x
import Derived.BigQuiet
import Derived.Test.YtaepgjheknkojaaGreatG11x
import Derived.Deep.RegionHeld3
namespace Go.Proofs.YtaepgjheknkojaaGreat
open Go.RowKit
set_option linter.unusedSimpArgs false
set_option linter.unusedVariables false

def padOk (c : Chk) (last : Bool) : Bool := decide ((if oddC c && last then -1 else 0) ≤ c.pad) && decide (c.pad ≤ if oddC c then 255 else 0)
theorem layOk_eq (c : Chk) (last : Bool) : layOk c last = (idB c.id && padOk c last) := rfl
def hasPadB (c : Chk) : Bool := oddC c && (c.pad != -1)
theorem oddC_int (c : Chk) : oddC c = ((c.body.size : Int) % 2 == 1) := by
  unfold oddC
  rw [Bool.eq_iff_iff, decide_eq_true_iff, beq_iff_eq]
  omega
theorem idB_len (s : ByteArray) (h : ¬ s.size = 4) : idB s = false := by
  unfold idB
  rw [decide_eq_false h, Bool.and_false]

set_option maxRecDepth 20000 in
set_option maxHeartbeats 1600000 in
theorem isId_spec (s : ByteArray) (hs : s.size ≤ 200000000000000) (w : World) :
    Calls Tryz.prog 114 #[.string s] w fun e w' => e = .returned (.bool (idB s)) ∧ w' = w := by
  by_cases h4 : s.size = 4
  · have h4b : ((s.size : Int) != 4) = false := by simp; omega
    go_enter Tryz.func114, Tryz.ntmps114
    go_wp2_with fail
    go_loop [9] (fun t => ∃ k : Nat, k ≤ s.size ∧ t = .int .i64 (k : Int) ∧ ∀ i (hi : i < s.size), i < k → idByte (s[i]'hi).toNat = true) (fun t => s.size - (intOf t).toNat)
    case atStart => exact ⟨0, Nat.zero_le _, rfl, fun i hi h => absurd h (Nat.not_lt_zero _)⟩
    case round =>
      obtain ⟨k, hk, rfl, hall⟩ := hrel
      have HALL : Hid (∀ i (hi : i < s.size), i < k → idByte (s[i]'hi).toNat = true) := hall
      clear hall
      by_cases hlt : k < s.size
      · have hb : (s[k]'hlt).toNat < 256 := (s[k]'hlt).toNat_lt
        by_cases h1 : (s[k]'hlt).toNat < 32
        · have HN : Hid (idB s = false) := all_byte_false s k hlt (by unfold idByte; exact decide_eq_false (by omega))
          go_wp2_with fail
          go_ret
          exact ⟨by rw [HN.out]; rfl, rfl⟩
        · by_cases h2 : 126 < (s[k]'hlt).toNat
          · have HN : Hid (idB s = false) := all_byte_false s k hlt (by unfold idByte; exact decide_eq_false (by omega))
            go_wp2_with fail
            go_ret
            exact ⟨by rw [HN.out]; rfl, rfl⟩
          · have HA : Hid (∀ i (hi : i < s.size), i < k + 1 → idByte (s[i]'hi).toNat = true) := fun i hi h => by
              by_cases e : i = k
              · subst e
                unfold idByte
                exact decide_eq_true ⟨by omega, by omega⟩
              · exact HALL.out i hi (by omega)
            clear HALL
            go_wp2_with fail
            go_round
            case rel => exact ⟨k + 1, by omega, by go_num, HA.out⟩
            case measure => simp [intOf]; omega
      · have HY : Hid (idB s = true) := (all_byte_true s (fun i hi => HALL.out i hi (by omega))).trans (decide_eq_true h4)
        clear HALL
        go_wp2_with fail
        go_ret
        exact ⟨by rw [HY.out]; rfl, rfl⟩
  · have HN : Hid (idB s = false) := idB_len s h4
    have h4b : ((s.size : Int) != 4) = true := by simp; omega
    go_enter Tryz.func114, Tryz.ntmps114
    go_wp2_with fail
    go_ret
    exact ⟨by rw [HN.out]; rfl, rfl⟩

set_option maxRecDepth 20000 in
set_option maxHeartbeats 1600000 in
theorem isOdd_spec (c : Chk) (w : World) :
    Calls Tryz.prog 123 #[chkV c] w fun e w' => e = .returned (.bool (oddC c)) ∧ Below w.heap.size w w' := by
  have HO : Hid (oddC c = ((c.body.size : Int) % 2 == 1)) := oddC_int c
  have HB : Hid (Below w.heap.size w (w.alloc (.cells (chkC c) 55))) := (Below.refl _ _).alloc (Nat.le_refl _) _
  go_enter Tryz.func123, Tryz.ntmps123
  go_wp2_with fail
  go_ret
  exact ⟨by rw [HO.out]; rfl, HB.out⟩

set_option maxRecDepth 20000 in
set_option maxHeartbeats 1600000 in
theorem hasPad_spec (c : Chk) (w : World) :
    Calls Tryz.prog 118 #[chkV c] w fun e w' => e = .returned (.bool (hasPadB c)) ∧ Below w.heap.size w w' := by
  have k := isOdd_spec c (w.alloc (.cells (chkC c) 55))
  have hr : (w.alloc (.cells (chkC c) 55)).heap[w.heap.size]? = some (.cells (chkC c) 55 (0, 0)) := heap_alloc_new _ _
  have HR : Hid ((w.alloc (.cells (chkC c) 55)).heap[w.heap.size]? = some (.cells (chkC c) 55 (0, 0))) := hr
  have HB : Hid (Below w.heap.size w (w.alloc (.cells (chkC c) 55))) := (Below.refl _ _).alloc (Nat.le_refl _) _
  clear hr
  cases ho : oddC c
  · have HO : Hid (hasPadB c = false) := by unfold hasPadB; rw [ho]; rfl
    rw [ho] at k
    go_enter Tryz.func118, Tryz.ntmps118
    go_wp2_with fail
    refine k.mono ?_
    rintro e w2 ⟨rfl, hB⟩
    have HB2 : Hid (Below w.heap.size w w2) := HB.out.trans (hB.mono HB.out.size)
    clear hB k
    go_wp2_with fail
    go_ret
    exact ⟨by rw [HO.out]; rfl, HB2.out⟩
  · have HO : Hid (hasPadB c = (c.pad != -1)) := by unfold hasPadB; rw [ho]; rfl
    rw [ho] at k
    go_enter Tryz.func118, Tryz.ntmps118
    go_wp2_with fail
    refine k.mono ?_
    rintro e w2 ⟨rfl, hB⟩
    have HB2 : Hid (Below w.heap.size w w2) := HB.out.trans (hB.mono HB.out.size)
    have c2 : w2.cell? ⟨w.heap.size, 2, none⟩ = some (.int .i64 c.pad) := by
      rw [cell_of_row _ _ _ _ _ _ ((hB.block _ (lt_of_block HR.out)).trans HR.out)]
      rfl
    clear hB k
    go_wp2_with fail
    go_ret
    exact ⟨by rw [HO.out]; rfl, HB2.out⟩

theorem padOk_even (c : Chk) (last : Bool) (h : oddC c = false) : padOk c last = (c.pad == 0) := by
  unfold padOk
  rw [h, Bool.eq_iff_iff, Bool.and_eq_true_iff, decide_eq_true_iff, decide_eq_true_iff, beq_iff_eq]
  simp
  omega
theorem padOk_none (c : Chk) (last : Bool) (h : oddC c = true) (hp : c.pad = -1) : padOk c last = last := by
  unfold padOk
  rw [h, hp]
  cases last <;> decide
theorem padOk_some (c : Chk) (last : Bool) (h : oddC c = true) (hp : ¬ c.pad = -1) : padOk c last = (decide (0 ≤ c.pad) && decide (c.pad ≤ 255)) := by
  unfold padOk
  rw [h]
  cases last
  · rfl
  · show (decide ((-1 : Int) ≤ c.pad) && decide (c.pad ≤ 255)) = _
    rw [Bool.eq_iff_iff, Bool.and_eq_true_iff, Bool.and_eq_true_iff]
    simp only [decide_eq_true_eq]
    omega

set_option maxRecDepth 20000 in
set_option maxHeartbeats 1600000 in
theorem mayHavePad_spec (c : Chk) (last : Bool) (w : World) :
    Calls Tryz.prog 115 #[chkV c, .bool last] w fun e w' => e = .returned (.bool (padOk c last)) ∧ Below w.heap.size w w' := by
  have k := isOdd_spec c (w.alloc (.cells (chkC c) 55))
  have hr : (w.alloc (.cells (chkC c) 55)).heap[w.heap.size]? = some (.cells (chkC c) 55 (0, 0)) := heap_alloc_new _ _
  have HR : Hid ((w.alloc (.cells (chkC c) 55)).heap[w.heap.size]? = some (.cells (chkC c) 55 (0, 0))) := hr
  have HB : Hid (Below w.heap.size w (w.alloc (.cells (chkC c) 55))) := (Below.refl _ _).alloc (Nat.le_refl _) _
  clear hr
  cases ho : oddC c
  · have HO : Hid (padOk c last = (c.pad == 0)) := padOk_even c last ho
    rw [ho] at k
    go_enter Tryz.func115, Tryz.ntmps115
    go_wp2_with fail
    refine k.mono ?_
    rintro e w2 ⟨rfl, hB⟩
    have HB2 : Hid (Below w.heap.size w w2) := HB.out.trans (hB.mono HB.out.size)
    have c2 : w2.cell? ⟨w.heap.size, 2, none⟩ = some (.int .i64 c.pad) := by
      rw [cell_of_row _ _ _ _ _ _ ((hB.block _ (lt_of_block HR.out)).trans HR.out)]
      rfl
    clear hB k
    go_wp2_with fail
    go_ret
    exact ⟨by rw [HO.out]; rfl, HB2.out⟩
  · rw [ho] at k
    by_cases hp : c.pad = -1
    · have HO : Hid (padOk c last = last) := padOk_none c last ho hp
      have HP : Hid (c.pad = -1) := hp
      clear hp
      go_enter Tryz.func115, Tryz.ntmps115
      go_wp2_with fail
      refine k.mono ?_
      rintro e w2 ⟨rfl, hB⟩
      have HB2 : Hid (Below w.heap.size w w2) := HB.out.trans (hB.mono HB.out.size)
      have c2 : w2.cell? ⟨w.heap.size, 2, none⟩ = some (.int .i64 (-1)) := by
        rw [cell_of_row _ _ _ _ _ _ ((hB.block _ (lt_of_block HR.out)).trans HR.out), ← HP.out]
        rfl
      clear hB k
      go_wp2_with fail
      go_ret
      exact ⟨by rw [HO.out]; rfl, HB2.out⟩
    · have HO : Hid (padOk c last = (decide (0 ≤ c.pad) && decide (c.pad ≤ 255))) := padOk_some c last ho hp
      have hpb : (c.pad == -1) = false := by simp [hp]
      clear hp
      cases h0 : decide (0 ≤ c.pad)
      · rw [h0] at HO
        go_enter Tryz.func115, Tryz.ntmps115
        go_wp2_with fail
        refine k.mono ?_
        rintro e w2 ⟨rfl, hB⟩
        have HB2 : Hid (Below w.heap.size w w2) := HB.out.trans (hB.mono HB.out.size)
        have c2 : w2.cell? ⟨w.heap.size, 2, none⟩ = some (.int .i64 c.pad) := by
          rw [cell_of_row _ _ _ _ _ _ ((hB.block _ (lt_of_block HR.out)).trans HR.out)]
          rfl
        clear hB k
        go_wp2_with fail
        go_ret
        exact ⟨by rw [HO.out]; rfl, HB2.out⟩
      · rw [h0] at HO
        go_enter Tryz.func115, Tryz.ntmps115
        go_wp2_with fail
        refine k.mono ?_
        rintro e w2 ⟨rfl, hB⟩
        have HB2 : Hid (Below w.heap.size w w2) := HB.out.trans (hB.mono HB.out.size)
        have c2 : w2.cell? ⟨w.heap.size, 2, none⟩ = some (.int .i64 c.pad) := by
          rw [cell_of_row _ _ _ _ _ _ ((hB.block _ (lt_of_block HR.out)).trans HR.out)]
          rfl
        clear hB k
        go_wp2_with fail
        go_ret
        exact ⟨by rw [HO.out]; rfl, HB2.out⟩

theorem isEmpty_true (s : ByteArray) (h : s.size = 0) : s.toList.isEmpty = true := by
  have : s = ⟨#[]⟩ := by
    apply ByteArray.ext
    exact Array.eq_empty_of_size_eq_zero h
  rw [this, ByteArray.toList_eq]
  rfl
theorem isEmpty_false (s : ByteArray) (h : 0 < s.size) : s.toList.isEmpty = false := by
  rw [ByteArray.toList_eq]
  rw [List.isEmpty_eq_false_iff]
  intro e
  have : s.size = 0 := by
    show s.data.size = 0
    rw [← Array.length_toList, e]
    rfl
  omega
theorem below_drewN (w : World) (n : Nat) : Below w.heap.size w (w.drewN n) := ⟨rfl, rfl, rfl, Nat.le_refl _, fun _ _ => rfl⟩
set_option maxRecDepth 20000 in
set_option maxHeartbeats 1600000 in
theorem padOf_none (s : ByteArray) (h : s.size = 0) (w : World) :
    Calls Tryz.prog 124 #[.string s] w fun e w' => e = .returned (.tuple #[.int .i64 (-1), .string s]) ∧ Below w.heap.size w w' := by
  have he := isEmpty_true s h
  go_enter Tryz.func124, Tryz.ntmps124
  go_wp2_with fail
  go_ret2
  exact ⟨rfl, Below.refl _ _⟩
set_option maxRecDepth 20000 in
set_option maxHeartbeats 1600000 in
theorem padOf_some (s : ByteArray) (h : 0 < s.size) (hs : s.size ≤ 200000000000000) (w : World) :
    Calls Tryz.prog 124 #[.string s] w fun e w' => e = .returned (.tuple #[.int .i64 ((bytesOf s).getD 0 0 : Int), .string (s.extract 1 s.size)]) ∧ Below w.heap.size w w' := by
  have he := isEmpty_false s h
  have HBY : Hid ((bytesOf s).getD 0 0 = (s[0]'h).toNat) := byte_getD s 0 h
  have hbb : (s[0]'h).toNat < 256 := (s[0]'h).toNat_lt
  go_enter Tryz.func124, Tryz.ntmps124
  go_wp2_with fail
  go_quiet (fail)
  go_wp2_with fail
  go_ret2
  exact ⟨by rw [HBY.out]; rfl, below_drewN _ _⟩

end Go.Proofs.YtaepgjheknkojaaGreat

namespace Go.Proofs.YtaepgjheknkojaaGreat
open Go.RowKit
set_option linter.unusedSimpArgs false
set_option linter.unusedVariables false

/-- How the lengths of Bodies are told. -/
structure Siz where
  big : Bool
  far : ByteArray
  fl : Int
abbrev sizC (z : Siz) : Array Value := #[.bool z.big, .string z.far, .int .i64 z.fl]
def lenM (z : Siz) (id told : ByteArray) : Int := if id.toList == z.far.toList then (if fromN told z.big != 4294967295 then -1 else z.fl) else fromN told z.big
def lenZ (z : Siz) (s : ByteArray) : Int := lenM z (s.extract 0 4) (s.extract 4 8)
def begB (z : Siz) (s : ByteArray) : Bool := decide (8 ≤ s.size) && (idB (s.extract 0 4) && (decide (0 ≤ lenZ z s) && decide (lenZ z s ≤ (s.size : Int) - 8)))
def begC (z : Siz) (s : ByteArray) : Chk := ⟨s.extract 0 4, s.extract 8 (8 + (lenZ z s).toNat), padC s (lenZ z s).toNat⟩
def begN (z : Siz) (s : ByteArray) : Nat := 8 + (lenZ z s).toNat + (if (lenZ z s).toNat % 2 = 1 ∧ 8 + (lenZ z s).toNat < s.size then 1 else 0)
def begR (z : Siz) (s : ByteArray) : ByteArray := s.extract (begN z s) s.size

theorem infoZ : (Tryz.prog.info? 145).map (·.size) = some 3 := by kernel_rfl

set_option maxRecDepth 20000 in
set_option maxHeartbeats 3200000 in
theorem length_spec (z : Siz) (id told : ByteArray) (ht : told.size ≤ 8) (w : World) :
    Calls Tryz.prog 122 #[.agg (sizC z), .string id, .string told] w fun e w' => e = .returned (.int .i64 (lenM z id told)) ∧ Below w.heap.size w w' := by
  have kl := fun w => fromLe_spec told (by omega) w
  have kb := fun w => fromBe_spec told (by omega) w
  have HB : Hid (Below w.heap.size w (w.alloc (.cells (sizC z) 145))) := (Below.refl _ _).alloc (Nat.le_refl _) _
  have HL : Hid (lenM z id told = if id.toList == z.far.toList then (if fromN told z.big != 4294967295 then -1 else z.fl) else fromN told z.big) := rfl
  obtain ⟨big, far, fl⟩ := z
  cases big
  · have HN : Hid (fromN told false = fromBe (bytesOf told).reverse) := rfl
    generalize fromBe (bytesOf told).reverse = n at *
    generalize fromBe (bytesOf told) = m at *
    cases hq : id.toList == far.toList
    · have HE : Hid (lenM ⟨false, far, fl⟩ id told = n) := HL.out.trans (by rw [hq]; exact HN.out)
      go_enter Tryz.func122, Tryz.ntmps122
      go_wp2_with fail
      refine (kl _).mono ?_
      rintro e w2 ⟨rfl, rfl⟩
      go_wp2_with fail
      go_ret
      exact ⟨by rw [HE.out]; rfl, HB.out⟩
    · cases hn : n != 4294967295
      · have HE : Hid (lenM ⟨false, far, fl⟩ id told = fl) := HL.out.trans (by rw [hq]; show (if (fromN told false != 4294967295) = true then (-1 : Int) else fl) = fl; rw [HN.out, hn]; rfl)
        go_enter Tryz.func122, Tryz.ntmps122
        go_wp2_with fail
        refine (kl _).mono ?_
        rintro e w2 ⟨rfl, rfl⟩
        go_wp2_with fail
        go_ret
        exact ⟨by rw [HE.out]; rfl, HB.out⟩
      · have HE : Hid (lenM ⟨false, far, fl⟩ id told = -1) := HL.out.trans (by rw [hq]; show (if (fromN told false != 4294967295) = true then (-1 : Int) else fl) = -1; rw [HN.out, hn]; rfl)
        go_enter Tryz.func122, Tryz.ntmps122
        go_wp2_with fail
        refine (kl _).mono ?_
        rintro e w2 ⟨rfl, rfl⟩
        go_wp2_with fail
        go_ret
        exact ⟨by rw [HE.out]; rfl, HB.out⟩
  · have HN : Hid (fromN told true = fromBe (bytesOf told)) := rfl
    generalize fromBe (bytesOf told).reverse = m at *
    generalize fromBe (bytesOf told) = n at *
    cases hq : id.toList == far.toList
    · have HE : Hid (lenM ⟨true, far, fl⟩ id told = n) := HL.out.trans (by rw [hq]; exact HN.out)
      go_enter Tryz.func122, Tryz.ntmps122
      go_wp2_with fail
      refine (kl _).mono ?_
      rintro e w2 ⟨rfl, rfl⟩
      go_wp2_with fail
      refine (kb _).mono ?_
      rintro e w2 ⟨rfl, rfl⟩
      go_wp2_with fail
      go_ret
      exact ⟨by rw [HE.out]; rfl, HB.out⟩
    · cases hn : n != 4294967295
      · have HE : Hid (lenM ⟨true, far, fl⟩ id told = fl) := HL.out.trans (by rw [hq]; show (if (fromN told true != 4294967295) = true then (-1 : Int) else fl) = fl; rw [HN.out, hn]; rfl)
        go_enter Tryz.func122, Tryz.ntmps122
        go_wp2_with fail
        refine (kl _).mono ?_
        rintro e w2 ⟨rfl, rfl⟩
        go_wp2_with fail
        refine (kb _).mono ?_
        rintro e w2 ⟨rfl, rfl⟩
        go_wp2_with fail
        go_ret
        exact ⟨by rw [HE.out]; rfl, HB.out⟩
      · have HE : Hid (lenM ⟨true, far, fl⟩ id told = -1) := HL.out.trans (by rw [hq]; show (if (fromN told true != 4294967295) = true then (-1 : Int) else fl) = -1; rw [HN.out, hn]; rfl)
        go_enter Tryz.func122, Tryz.ntmps122
        go_wp2_with fail
        refine (kl _).mono ?_
        rintro e w2 ⟨rfl, rfl⟩
        go_wp2_with fail
        refine (kb _).mono ?_
        rintro e w2 ⟨rfl, rfl⟩
        go_wp2_with fail
        go_ret
        exact ⟨by rw [HE.out]; rfl, HB.out⟩

/-- begin's boxes: the sizes' and the answer's. -/
structure Jb (w0 : World) (z : Siz) (w : World) : Prop where
  zb : w.heap[w0.heap.size]? = some (.cells (sizC z) 145 (0, 0))
  res : w.heap[w0.heap.size + 1]? = some (.cells zeroK 55 (0, 0))
  below : Below w0.heap.size w0 w
theorem Jb.new (w : World) (z : Siz) : Jb w z ((w.alloc (.cells (sizC z) 145)).alloc (.cells zeroK 55)) := by
  refine ⟨?_, ?_, ((Below.refl _ _).alloc (Nat.le_refl _) _).alloc (by simp) _⟩
  · exact (((Below.refl _ _).alloc (Nat.le_refl _) _).block _ (by simp)).trans (heap_alloc_new w _)
  · rw [← show (w.alloc (.cells (sizC z) 145)).heap.size = w.heap.size + 1 from by simp]
    exact heap_alloc_new _ _
theorem Jb.next {w0 w w1 : World} {z : Siz} (h : Jb w0 z w) (hB : Below w.heap.size w w1) : Jb w0 z w1 :=
  ⟨by rw [hB.block _ (lt_of_block h.zb)]; exact h.zb, by rw [hB.block _ (lt_of_block h.res)]; exact h.res, h.below.trans (hB.mono h.below.size)⟩
theorem Jb.s {w0 w : World} {z : Siz} (h : Jb w0 z w) (j : Nat) (v : Value) (hv : (sizC z)[j]? = some v) : w.cell? ⟨w0.heap.size, j, none⟩ = some v := by rw [cell_of_row _ _ _ _ _ _ h.zb]; exact hv
theorem Jb.c {w0 w : World} {z : Siz} (h : Jb w0 z w) (j : Nat) (v : Value) (hv : zeroK[j]? = some v) : w.cell? ⟨w0.heap.size + 1, j, none⟩ = some v := by rw [cell_of_row _ _ _ _ _ _ h.res]; exact hv
theorem Jb.z {w0 w : World} {z : Siz} (h : Jb w0 z w) (j : Nat) : w.frozen? ⟨w0.heap.size + 1, j, none⟩ = false := by
  have := h.res
  simp [World.frozen?, this]
/-- What is stored into the answer's box is answered. -/
theorem Jb.out {w0 w : World} {z : Siz} (h : Jb w0 z w) (a b c : Value) (wf : World) (hw : ((w.setCell ⟨w0.heap.size + 1, 0, none⟩ a).setCell ⟨w0.heap.size + 1, 1, none⟩ b).setCell ⟨w0.heap.size + 1, 2, none⟩ c = wf) :
    wf.heap[w0.heap.size + 1]? = some (.cells #[a, b, c] 55 (0, 0)) ∧ Below w0.heap.size w0 wf := by
  refine ⟨?_, ?_⟩
  · rw [← hw, block_set _ _ _ _ _ _ (block_set _ _ _ _ _ _ (block_set _ _ _ _ _ _ h.res))]
    rfl
  · rw [← hw]
    exact ((h.below.setCell (Nat.le_succ _) _).setCell (Nat.le_succ _) _).setCell (Nat.le_succ _) _
theorem begin_ret {wf w0 : World} {a b c : Value} (h : wf.heap[w0.heap.size + 1]? = some (.cells #[a, b, c] 55 (0, 0))) (a' : Act) (r n : Value) (h6 : a'.tmps.getD 6 undef = .pointer (some ⟨w0.heap.size + 1, 0, none⟩)) (h7 : a'.tmps.getD 7 undef = r) (h8 : a'.tmps.getD 8 undef = n) :
    (results Tryz.f100 a'.tmps).run Tryz.prog wf = .ok (.tuple #[.agg #[a, b, c], r, n]) wf := by
  rw [res_three rfl]
  have hld := run_loadVar_row (P := Tryz.prog) wf (w0.heap.size + 1) 55 55 #[a, b, c] (0, 0) _ h Tryz.underlying55 rfl infoK
  simp [h6, h7, h8, asAddr, Result.andThen, hld]

end Go.Proofs.YtaepgjheknkojaaGreat

namespace Go.Proofs.YtaepgjheknkojaaGreat
open Go.RowKit
set_option linter.unusedSimpArgs false
set_option linter.unusedVariables false

set_option maxRecDepth 20000 in
set_option maxHeartbeats 3200000 in
theorem begin_short (z : Siz) (s : ByteArray) (k : Int) (w : World) (h8 : s.size < 8) :
    Calls Tryz.prog 100 #[.agg (sizC z), .string s, .int .i64 k] w fun e w' => e = .returned (.tuple #[.agg zeroK, .string ⟨#[]⟩, .int .i64 2]) ∧ Below w.heap.size w w' := by
  have HL0 : Hid (Jb w z ((w.alloc (.cells (sizC z) 145)).alloc (.cells zeroK 55))) := Jb.new w z
  go_enter Tryz.func100, Tryz.ntmps100
  go_wp2_with fail
  exact bodyPost_ret (v := .tuple #[.agg zeroK, .string ⟨#[]⟩, .int .i64 2]) (begin_ret HL0.out.res _ _ _ rfl rfl rfl) rfl ⟨rfl, HL0.out.below⟩

set_option maxRecDepth 20000 in
set_option maxHeartbeats 3200000 in
theorem begin_noid (z : Siz) (s : ByteArray) (k : Int) (w : World) (h8 : 8 ≤ s.size) (hs : s.size ≤ 140737488351232) (hid : idB (s.extract 0 4) = false) :
    Calls Tryz.prog 100 #[.agg (sizC z), .string s, .int .i64 k] w fun e w' => e = .returned (.tuple #[.agg zeroK, .string ⟨#[]⟩, .int .i64 2]) ∧ Below w.heap.size w w' := by
  have HL0 : Hid (Jb w z ((w.alloc (.cells (sizC z) 145)).alloc (.cells zeroK 55))) := Jb.new w z
  have ki := isId_spec (s.extract 0 4) (by rw [ext_size _ _ _ (by omega) (by omega)]; decide)
  rw [hid] at ki
  go_enter Tryz.func100, Tryz.ntmps100
  go_wp2_with fail
  refine (ki _).mono ?_
  rintro e w2 ⟨rfl, rfl⟩
  go_wp2_with fail
  exact bodyPost_ret (v := .tuple #[.agg zeroK, .string ⟨#[]⟩, .int .i64 2]) (begin_ret HL0.out.res _ _ _ rfl rfl rfl) rfl ⟨rfl, HL0.out.below⟩

set_option maxRecDepth 20000 in
set_option maxHeartbeats 3200000 in
theorem begin_far (z : Siz) (s : ByteArray) (k : Int) (w : World) (h8 : 8 ≤ s.size) (hs : s.size ≤ 140737488351232) (hid : idB (s.extract 0 4) = true) (hl : lenZ z s < 0 ∨ (s.size : Int) - 8 < lenZ z s) :
    Calls Tryz.prog 100 #[.agg (sizC z), .string s, .int .i64 k] w fun e w' => e = .returned (.tuple #[.agg zeroK, .string ⟨#[]⟩, .int .i64 2]) ∧ Below w.heap.size w w' := by
  have HL0 : Hid (Jb w z ((w.alloc (.cells (sizC z) 145)).alloc (.cells zeroK 55))) := Jb.new w z
  have ki := isId_spec (s.extract 0 4) (by rw [ext_size _ _ _ (by omega) (by omega)]; decide)
  rw [hid] at ki
  have KL : Hid (∀ wx, Hid (Jb w z wx) → Calls Tryz.prog 122 #[.agg (sizC z), .string (s.extract 0 4), .string (s.extract 4 8)] wx fun e w' => e = .returned (.int .i64 (lenZ z s)) ∧ Hid (Jb w z w')) := fun wx hx =>
    (length_spec z (s.extract 0 4) (s.extract 4 8) (by rw [ext_size _ _ _ (by omega) (by omega)]; decide) wx).mono fun e w' h => ⟨h.1, hx.out.next h.2⟩
  have HS : Hid (∀ wx, Hid (Jb w z wx) → wx.cell? ⟨w.heap.size, 0, none⟩ = some (.bool z.big) ∧ wx.cell? ⟨w.heap.size, 1, none⟩ = some (.string z.far) ∧ wx.cell? ⟨w.heap.size, 2, none⟩ = some (.int .i64 z.fl)) := fun wx hx => ⟨hx.out.s 0 _ rfl, hx.out.s 1 _ rfl, hx.out.s 2 _ rfl⟩
  have hes : ((s.extract 8 s.size).size : Int) = (s.size : Int) - 8 := by rw [ext_size _ _ _ (by omega) (Nat.le_refl _)]; omega
  generalize lenZ z s = L at *
  go_enter Tryz.func100, Tryz.ntmps100
  go_wp2_with fail
  refine (ki _).mono ?_
  rintro e w2 ⟨rfl, rfl⟩
  clear ki
  go_wp2_with fail
  go_quiet (fail)
  go_wp2_with fail
  generalize hwa : World.drewN _ _ = wa
  have HA : Hid (Jb w z wa) := by
    rw [← hwa]
    exact HL0.out.next ⟨rfl, rfl, rfl, Nat.le_refl _, fun _ _ => rfl⟩
  have HD : Hid (Jb w z wa.drew) := HA.out.next ⟨rfl, rfl, rfl, Nat.le_refl _, fun _ _ => rfl⟩
  clear hwa HL0
  go_region_held3 (fun wx => wx.cell? ⟨w.heap.size, 0, none⟩ = some (.bool z.big) ∧ wx.cell? ⟨w.heap.size, 1, none⟩ = some (.string z.far) ∧ wx.cell? ⟨w.heap.size, 2, none⟩ = some (.int .i64 z.fl)) (exact HS.out _ (by assumption))
    ((go_at_call 122; refine (KL.out _ (by assumption)).mono ?_; rintro e w4 ⟨rfl, h4⟩))
  clear KL HS HA HD
  have r0 := h4.out.c 0 _ rfl
  have r1 := h4.out.c 1 _ rfl
  have r2 := h4.out.c 2 _ rfl
  have z0 := h4.out.z 0
  have z1 := h4.out.z 1
  have z2 := h4.out.z 2
  rcases hl with hl | hl
  · go_wp2_with fail
    obtain ⟨g1, g2⟩ := h4.out.out (.string ⟨#[]⟩) (.string ⟨#[]⟩) (.int .i64 0) _ rfl
    exact bodyPost_ret (v := .tuple #[.agg zeroK, .string ⟨#[]⟩, .int .i64 2]) (begin_ret g1 _ _ _ rfl rfl rfl) rfl ⟨rfl, g2⟩
  · have hn : ¬ L < 0 := by omega
    go_wp2_with fail
    obtain ⟨g1, g2⟩ := h4.out.out (.string ⟨#[]⟩) (.string ⟨#[]⟩) (.int .i64 0) _ rfl
    exact bodyPost_ret (v := .tuple #[.agg zeroK, .string ⟨#[]⟩, .int .i64 2]) (begin_ret g1 _ _ _ rfl rfl rfl) rfl ⟨rfl, g2⟩

set_option maxRecDepth 20000 in
set_option maxHeartbeats 3200000 in
theorem begin_many (z : Siz) (s : ByteArray) (k : Int) (w : World) (h8 : 8 ≤ s.size) (hs : s.size ≤ 140737488351232) (hid : idB (s.extract 0 4) = true) (hl0 : 0 ≤ lenZ z s) (hl1 : lenZ z s ≤ (s.size : Int) - 8) (hk : 1024 ≤ k) :
    Calls Tryz.prog 100 #[.agg (sizC z), .string s, .int .i64 k] w fun e w' => e = .returned (.tuple #[.agg zeroK, .string ⟨#[]⟩, .int .i64 5]) ∧ Below w.heap.size w w' := by
  have HL0 : Hid (Jb w z ((w.alloc (.cells (sizC z) 145)).alloc (.cells zeroK 55))) := Jb.new w z
  have ki := isId_spec (s.extract 0 4) (by rw [ext_size _ _ _ (by omega) (by omega)]; decide)
  rw [hid] at ki
  have KL : Hid (∀ wx, Hid (Jb w z wx) → Calls Tryz.prog 122 #[.agg (sizC z), .string (s.extract 0 4), .string (s.extract 4 8)] wx fun e w' => e = .returned (.int .i64 (lenZ z s)) ∧ Hid (Jb w z w')) := fun wx hx =>
    (length_spec z (s.extract 0 4) (s.extract 4 8) (by rw [ext_size _ _ _ (by omega) (by omega)]; decide) wx).mono fun e w' h => ⟨h.1, hx.out.next h.2⟩
  have HS : Hid (∀ wx, Hid (Jb w z wx) → wx.cell? ⟨w.heap.size, 0, none⟩ = some (.bool z.big) ∧ wx.cell? ⟨w.heap.size, 1, none⟩ = some (.string z.far) ∧ wx.cell? ⟨w.heap.size, 2, none⟩ = some (.int .i64 z.fl)) := fun wx hx => ⟨hx.out.s 0 _ rfl, hx.out.s 1 _ rfl, hx.out.s 2 _ rfl⟩
  have hes : ((s.extract 8 s.size).size : Int) = (s.size : Int) - 8 := by rw [ext_size _ _ _ (by omega) (Nat.le_refl _)]; omega
  generalize lenZ z s = L at *
  go_enter Tryz.func100, Tryz.ntmps100
  go_wp2_with fail
  refine (ki _).mono ?_
  rintro e w2 ⟨rfl, rfl⟩
  clear ki
  go_wp2_with fail
  go_quiet (fail)
  go_wp2_with fail
  generalize hwa : World.drewN _ _ = wa
  have HA : Hid (Jb w z wa) := by
    rw [← hwa]
    exact HL0.out.next ⟨rfl, rfl, rfl, Nat.le_refl _, fun _ _ => rfl⟩
  have HD : Hid (Jb w z wa.drew) := HA.out.next ⟨rfl, rfl, rfl, Nat.le_refl _, fun _ _ => rfl⟩
  clear hwa HL0
  go_region_held3 (fun wx => wx.cell? ⟨w.heap.size, 0, none⟩ = some (.bool z.big) ∧ wx.cell? ⟨w.heap.size, 1, none⟩ = some (.string z.far) ∧ wx.cell? ⟨w.heap.size, 2, none⟩ = some (.int .i64 z.fl)) (exact HS.out _ (by assumption))
    ((go_at_call 122; refine (KL.out _ (by assumption)).mono ?_; rintro e w4 ⟨rfl, h4⟩))
  clear KL HS HA HD
  have r0 := h4.out.c 0 _ rfl
  have r1 := h4.out.c 1 _ rfl
  have r2 := h4.out.c 2 _ rfl
  have z0 := h4.out.z 0
  have z1 := h4.out.z 1
  have z2 := h4.out.z 2
  go_wp2_with fail
  obtain ⟨g1, g2⟩ := h4.out.out (.string ⟨#[]⟩) (.string ⟨#[]⟩) (.int .i64 0) _ rfl
  exact bodyPost_ret (v := .tuple #[.agg zeroK, .string ⟨#[]⟩, .int .i64 5]) (begin_ret g1 _ _ _ rfl rfl rfl) rfl ⟨rfl, g2⟩

end Go.Proofs.YtaepgjheknkojaaGreat
