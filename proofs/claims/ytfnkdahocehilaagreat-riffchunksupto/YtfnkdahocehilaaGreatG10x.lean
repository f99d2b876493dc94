/- Own text: the walks of isId, isOdd, hasPad, mayHavePad, padOf. the walks of the program's Len, mayBe, half, isSample, isAlike. -/
import Derived.Test.YtfnkdahocehilaaGreatG9x
import Derived.BigQuiet
import Derived.Test.YtfnkdahocehilaaGreatG3x
import Derived.Shelf.Abstract
namespace Go.Proofs.YtfnkdahocehilaaGreat
open Go.RowKit
set_option linter.unusedSimpArgs false
set_option linter.unusedVariables false

def padOk (c : Chk) (last : Bool) : Bool := decide ((if oddC c && last then -1 else 0) ≤ c.pad) && decide (c.pad ≤ if oddC c then 255 else 0)
theorem layOk_eq (c : Chk) (last : Bool) : layOk c last = (idB c.id && padOk c last) := rfl
def hasPadB (c : Chk) : Bool := oddC c && (c.pad != -1)
theorem oddC_int (c : Chk) : oddC c = ((c.body.size : Int) % 2 == 1) := by
  unfold oddC
  rw [Bool.eq_iff_iff, decide_eq_true_iff, beq_iff_eq]
  omega
theorem idB_len (s : ByteArray) (h : ¬ s.size = 4) : idB s = false := by
  unfold idB
  rw [decide_eq_false h, Bool.and_false]

set_option maxRecDepth 20000 in
set_option maxHeartbeats 1600000 in
theorem isId_spec (s : ByteArray) (hs : s.size ≤ 200000000000000) (w : World) :
    Calls Tryz.prog 45 #[.string s] w fun e w' => e = .returned (.bool (idB s)) ∧ w' = w := by
  by_cases h4 : s.size = 4
  · have h4b : ((s.size : Int) != 4) = false := by simp; omega
    go_enter Tryz.func45, Tryz.ntmps45
    go_wp2_with fail
    go_loop [9] (fun t => ∃ k : Nat, k ≤ s.size ∧ t = .int .i64 (k : Int) ∧ ∀ i (hi : i < s.size), i < k → idByte (s[i]'hi).toNat = true) (fun t => s.size - (intOf t).toNat)
    case atStart => exact ⟨0, Nat.zero_le _, rfl, fun i hi h => absurd h (Nat.not_lt_zero _)⟩
    case round =>
      obtain ⟨k, hk, rfl, hall⟩ := hrel
      have HALL : Hid (∀ i (hi : i < s.size), i < k → idByte (s[i]'hi).toNat = true) := hall
      clear hall
      by_cases hlt : k < s.size
      · have hb : (s[k]'hlt).toNat < 256 := (s[k]'hlt).toNat_lt
        by_cases h1 : (s[k]'hlt).toNat < 32
        · have HN : Hid (idB s = false) := all_byte_false s k hlt (by unfold idByte; exact decide_eq_false (by omega))
          go_wp2_with fail
          go_ret
          exact ⟨by rw [HN.out]; rfl, rfl⟩
        · by_cases h2 : 126 < (s[k]'hlt).toNat
          · have HN : Hid (idB s = false) := all_byte_false s k hlt (by unfold idByte; exact decide_eq_false (by omega))
            go_wp2_with fail
            go_ret
            exact ⟨by rw [HN.out]; rfl, rfl⟩
          · have HA : Hid (∀ i (hi : i < s.size), i < k + 1 → idByte (s[i]'hi).toNat = true) := fun i hi h => by
              by_cases e : i = k
              · subst e
                unfold idByte
                exact decide_eq_true ⟨by omega, by omega⟩
              · exact HALL.out i hi (by omega)
            clear HALL
            go_wp2_with fail
            go_round
            case rel => exact ⟨k + 1, by omega, by go_num, HA.out⟩
            case measure => simp [intOf]; omega
      · have HY : Hid (idB s = true) := (all_byte_true s (fun i hi => HALL.out i hi (by omega))).trans (decide_eq_true h4)
        clear HALL
        go_wp2_with fail
        go_ret
        exact ⟨by rw [HY.out]; rfl, rfl⟩
  · have HN : Hid (idB s = false) := idB_len s h4
    have h4b : ((s.size : Int) != 4) = true := by simp; omega
    go_enter Tryz.func45, Tryz.ntmps45
    go_wp2_with fail
    go_ret
    exact ⟨by rw [HN.out]; rfl, rfl⟩

set_option maxRecDepth 20000 in
set_option maxHeartbeats 1600000 in
theorem isOdd_spec (c : Chk) (w : World) :
    Calls Tryz.prog 47 #[chkV c] w fun e w' => e = .returned (.bool (oddC c)) ∧ Below w.heap.size w w' := by
  have HO : Hid (oddC c = ((c.body.size : Int) % 2 == 1)) := oddC_int c
  have HB : Hid (Below w.heap.size w (w.alloc (.cells (chkC c) 52))) := (Below.refl _ _).alloc (Nat.le_refl _) _
  go_enter Tryz.func47, Tryz.ntmps47
  go_wp2_with fail
  go_ret
  exact ⟨by rw [HO.out]; rfl, HB.out⟩

set_option maxRecDepth 20000 in
set_option maxHeartbeats 1600000 in
theorem hasPad_spec (c : Chk) (w : World) :
    Calls Tryz.prog 55 #[chkV c] w fun e w' => e = .returned (.bool (hasPadB c)) ∧ Below w.heap.size w w' := by
  have k := isOdd_spec c (w.alloc (.cells (chkC c) 52))
  have hr : (w.alloc (.cells (chkC c) 52)).heap[w.heap.size]? = some (.cells (chkC c) 52 (0, 0)) := heap_alloc_new _ _
  have HR : Hid ((w.alloc (.cells (chkC c) 52)).heap[w.heap.size]? = some (.cells (chkC c) 52 (0, 0))) := hr
  have HB : Hid (Below w.heap.size w (w.alloc (.cells (chkC c) 52))) := (Below.refl _ _).alloc (Nat.le_refl _) _
  clear hr
  cases ho : oddC c
  · have HO : Hid (hasPadB c = false) := by unfold hasPadB; rw [ho]; rfl
    rw [ho] at k
    go_enter Tryz.func55, Tryz.ntmps55
    go_wp2_with fail
    refine k.mono ?_
    rintro e w2 ⟨rfl, hB⟩
    have HB2 : Hid (Below w.heap.size w w2) := HB.out.trans (hB.mono HB.out.size)
    clear hB k
    go_wp2_with fail
    go_ret
    exact ⟨by rw [HO.out]; rfl, HB2.out⟩
  · have HO : Hid (hasPadB c = (c.pad != -1)) := by unfold hasPadB; rw [ho]; rfl
    rw [ho] at k
    go_enter Tryz.func55, Tryz.ntmps55
    go_wp2_with fail
    refine k.mono ?_
    rintro e w2 ⟨rfl, hB⟩
    have HB2 : Hid (Below w.heap.size w w2) := HB.out.trans (hB.mono HB.out.size)
    have c2 : w2.cell? ⟨w.heap.size, 2, none⟩ = some (.int .i64 c.pad) := by
      rw [cell_of_row _ _ _ _ _ _ ((hB.block _ (lt_of_block HR.out)).trans HR.out)]
      rfl
    clear hB k
    go_wp2_with fail
    go_ret
    exact ⟨by rw [HO.out]; rfl, HB2.out⟩

theorem padOk_even (c : Chk) (last : Bool) (h : oddC c = false) : padOk c last = (c.pad == 0) := by
  unfold padOk
  rw [h, Bool.eq_iff_iff, Bool.and_eq_true_iff, decide_eq_true_iff, decide_eq_true_iff, beq_iff_eq]
  simp
  omega
theorem padOk_none (c : Chk) (last : Bool) (h : oddC c = true) (hp : c.pad = -1) : padOk c last = last := by
  unfold padOk
  rw [h, hp]
  cases last <;> decide
theorem padOk_some (c : Chk) (last : Bool) (h : oddC c = true) (hp : ¬ c.pad = -1) : padOk c last = (decide (0 ≤ c.pad) && decide (c.pad ≤ 255)) := by
  unfold padOk
  rw [h]
  cases last
  · rfl
  · show (decide ((-1 : Int) ≤ c.pad) && decide (c.pad ≤ 255)) = _
    rw [Bool.eq_iff_iff, Bool.and_eq_true_iff, Bool.and_eq_true_iff]
    simp only [decide_eq_true_eq]
    omega

set_option maxRecDepth 20000 in
set_option maxHeartbeats 1600000 in
theorem mayHavePad_spec (c : Chk) (last : Bool) (w : World) :
    Calls Tryz.prog 51 #[chkV c, .bool last] w fun e w' => e = .returned (.bool (padOk c last)) ∧ Below w.heap.size w w' := by
  have k := isOdd_spec c (w.alloc (.cells (chkC c) 52))
  have hr : (w.alloc (.cells (chkC c) 52)).heap[w.heap.size]? = some (.cells (chkC c) 52 (0, 0)) := heap_alloc_new _ _
  have HR : Hid ((w.alloc (.cells (chkC c) 52)).heap[w.heap.size]? = some (.cells (chkC c) 52 (0, 0))) := hr
  have HB : Hid (Below w.heap.size w (w.alloc (.cells (chkC c) 52))) := (Below.refl _ _).alloc (Nat.le_refl _) _
  clear hr
  cases ho : oddC c
  · have HO : Hid (padOk c last = (c.pad == 0)) := padOk_even c last ho
    rw [ho] at k
    go_enter Tryz.func51, Tryz.ntmps51
    go_wp2_with fail
    refine k.mono ?_
    rintro e w2 ⟨rfl, hB⟩
    have HB2 : Hid (Below w.heap.size w w2) := HB.out.trans (hB.mono HB.out.size)
    have c2 : w2.cell? ⟨w.heap.size, 2, none⟩ = some (.int .i64 c.pad) := by
      rw [cell_of_row _ _ _ _ _ _ ((hB.block _ (lt_of_block HR.out)).trans HR.out)]
      rfl
    clear hB k
    go_wp2_with fail
    go_ret
    exact ⟨by rw [HO.out]; rfl, HB2.out⟩
  · rw [ho] at k
    by_cases hp : c.pad = -1
    · have HO : Hid (padOk c last = last) := padOk_none c last ho hp
      have HP : Hid (c.pad = -1) := hp
      clear hp
      go_enter Tryz.func51, Tryz.ntmps51
      go_wp2_with fail
      refine k.mono ?_
      rintro e w2 ⟨rfl, hB⟩
      have HB2 : Hid (Below w.heap.size w w2) := HB.out.trans (hB.mono HB.out.size)
      have c2 : w2.cell? ⟨w.heap.size, 2, none⟩ = some (.int .i64 (-1)) := by
        rw [cell_of_row _ _ _ _ _ _ ((hB.block _ (lt_of_block HR.out)).trans HR.out), ← HP.out]
        rfl
      clear hB k
      go_wp2_with fail
      go_ret
      exact ⟨by rw [HO.out]; rfl, HB2.out⟩
    · have HO : Hid (padOk c last = (decide (0 ≤ c.pad) && decide (c.pad ≤ 255))) := padOk_some c last ho hp
      have hpb : (c.pad == -1) = false := by simp [hp]
      clear hp
      cases h0 : decide (0 ≤ c.pad)
      · rw [h0] at HO
        go_enter Tryz.func51, Tryz.ntmps51
        go_wp2_with fail
        refine k.mono ?_
        rintro e w2 ⟨rfl, hB⟩
        have HB2 : Hid (Below w.heap.size w w2) := HB.out.trans (hB.mono HB.out.size)
        have c2 : w2.cell? ⟨w.heap.size, 2, none⟩ = some (.int .i64 c.pad) := by
          rw [cell_of_row _ _ _ _ _ _ ((hB.block _ (lt_of_block HR.out)).trans HR.out)]
          rfl
        clear hB k
        go_wp2_with fail
        go_ret
        exact ⟨by rw [HO.out]; rfl, HB2.out⟩
      · rw [h0] at HO
        go_enter Tryz.func51, Tryz.ntmps51
        go_wp2_with fail
        refine k.mono ?_
        rintro e w2 ⟨rfl, hB⟩
        have HB2 : Hid (Below w.heap.size w w2) := HB.out.trans (hB.mono HB.out.size)
        have c2 : w2.cell? ⟨w.heap.size, 2, none⟩ = some (.int .i64 c.pad) := by
          rw [cell_of_row _ _ _ _ _ _ ((hB.block _ (lt_of_block HR.out)).trans HR.out)]
          rfl
        clear hB k
        go_wp2_with fail
        go_ret
        exact ⟨by rw [HO.out]; rfl, HB2.out⟩

theorem isEmpty_true (s : ByteArray) (h : s.size = 0) : s.toList.isEmpty = true := by
  have : s = ⟨#[]⟩ := by
    apply ByteArray.ext
    exact Array.eq_empty_of_size_eq_zero h
  rw [this, ByteArray.toList_eq]
  rfl
theorem isEmpty_false (s : ByteArray) (h : 0 < s.size) : s.toList.isEmpty = false := by
  rw [ByteArray.toList_eq]
  rw [List.isEmpty_eq_false_iff]
  intro e
  have : s.size = 0 := by
    show s.data.size = 0
    rw [← Array.length_toList, e]
    rfl
  omega
theorem below_drewN (w : World) (n : Nat) : Below w.heap.size w (w.drewN n) := ⟨rfl, rfl, rfl, Nat.le_refl _, fun _ _ => rfl⟩
set_option maxRecDepth 20000 in
set_option maxHeartbeats 1600000 in
theorem padOf_none (s : ByteArray) (h : s.size = 0) (w : World) :
    Calls Tryz.prog 48 #[.string s] w fun e w' => e = .returned (.tuple #[.int .i64 (-1), .string s]) ∧ Below w.heap.size w w' := by
  have he := isEmpty_true s h
  go_enter Tryz.func48, Tryz.ntmps48
  go_wp2_with fail
  go_ret2
  exact ⟨rfl, Below.refl _ _⟩
set_option maxRecDepth 20000 in
set_option maxHeartbeats 1600000 in
theorem padOf_some (s : ByteArray) (h : 0 < s.size) (hs : s.size ≤ 200000000000000) (w : World) :
    Calls Tryz.prog 48 #[.string s] w fun e w' => e = .returned (.tuple #[.int .i64 ((bytesOf s).getD 0 0 : Int), .string (s.extract 1 s.size)]) ∧ Below w.heap.size w w' := by
  have he := isEmpty_false s h
  have HBY : Hid ((bytesOf s).getD 0 0 = (s[0]'h).toNat) := byte_getD s 0 h
  have hbb : (s[0]'h).toNat < 256 := (s[0]'h).toNat_lt
  go_enter Tryz.func48, Tryz.ntmps48
  go_wp2_with fail
  go_quiet (fail)
  go_wp2_with fail
  go_ret2
  exact ⟨by rw [HBY.out]; rfl, below_drewN _ _⟩

end Go.Proofs.YtfnkdahocehilaaGreat

namespace Go.Proofs.YtfnkdahocehilaaGreat
open Go.RowKit
set_option linter.unusedSimpArgs false
set_option linter.unusedVariables false
set_option maxRecDepth 20000 in
set_option maxHeartbeats 1600000 in
theorem len_spec (p : Pcm) (ao : Option Addr) (cap : Nat) (w : World) (hr : RowsAt w ao p.pl) :
    Calls Tryz.prog 69 #[pcmV p ao cap] w fun e w' => e = .returned (.int .i64 (lenP p : Int)) ∧ Below w.heap.size w w' := by
  have hl := hr.len
  by_cases h0 : p.pl.length = 0
  · have e0 : lenP p = 0 := by
      unfold lenP
      rw [List.getD_eq_getElem?_getD, List.getElem?_eq_none (by omega)]
      rfl
    rw [e0]
    go_enter Tryz.func69, Tryz.ntmps69
    go_wp2
    go_ret
    exact ⟨rfl, (Below.refl _ _).alloc (Nat.le_refl _) _⟩
  · obtain ⟨b, off, rfl, hc⟩ := hr.lies (by omega)
    obtain ⟨a, c, h1, _, _, h2⟩ := hc 0 (by omega)
    have hb := lt_cell h1
    simp only at hb
    have hl2 := h2.len
    have e0 : (p.pl.getD 0 []).length = lenP p := rfl
    rw [e0, Nat.add_zero] at h1
    rw [e0] at hl2
    generalize lenP p = n at *
    clear hc h2 e0
    go_enter Tryz.func69, Tryz.ntmps69
    go_wp2
    go_ret
    exact ⟨rfl, (Below.refl _ _).alloc (Nat.le_refl _) _⟩

def mayB (rate ch wd : Int) : Bool := decide (1 ≤ rate ∧ rate ≤ 655350 ∧ 1 ≤ ch ∧ ch ≤ 8 ∧ 4 ≤ wd ∧ wd ≤ 32)

set_option maxRecDepth 20000 in
set_option maxHeartbeats 1600000 in
theorem mayBe_spec (rate ch wd : Int) (w : World) :
    Calls Tryz.prog 92 #[.int .i64 rate, .int .i64 ch, .int .i64 wd] w fun e w' => e = .returned (.bool (mayB rate ch wd)) ∧ w' = w := by
  by_cases g0 : rate < 1
  · have hd : mayB rate ch wd = false := decide_eq_false (by omega)
    rw [hd]
    go_enter Tryz.func92, Tryz.ntmps92
    go_wp2
    go_ret
    exact ⟨rfl, rfl⟩
  · skip
    by_cases g1 : 655350 < rate
    · have hd : mayB rate ch wd = false := decide_eq_false (by omega)
      rw [hd]
      go_enter Tryz.func92, Tryz.ntmps92
      go_wp2
      go_ret
      exact ⟨rfl, rfl⟩
    · skip
      by_cases g2 : ch < 1
      · have hd : mayB rate ch wd = false := decide_eq_false (by omega)
        rw [hd]
        go_enter Tryz.func92, Tryz.ntmps92
        go_wp2
        go_ret
        exact ⟨rfl, rfl⟩
      · skip
        by_cases g3 : 8 < ch
        · have hd : mayB rate ch wd = false := decide_eq_false (by omega)
          rw [hd]
          go_enter Tryz.func92, Tryz.ntmps92
          go_wp2
          go_ret
          exact ⟨rfl, rfl⟩
        · skip
          by_cases g4 : wd < 4
          · have hd : mayB rate ch wd = false := decide_eq_false (by omega)
            rw [hd]
            go_enter Tryz.func92, Tryz.ntmps92
            go_wp2
            go_ret
            exact ⟨rfl, rfl⟩
          · skip
            by_cases g5 : 32 < wd
            · have hd : mayB rate ch wd = false := decide_eq_false (by omega)
              have hb : decide (wd ≤ 32) = false := decide_eq_false (by omega)
              rw [hd]
              go_enter Tryz.func92, Tryz.ntmps92
              go_wp2
              go_ret
              exact ⟨rfl, rfl⟩
            · skip
              have hd : mayB rate ch wd = true := decide_eq_true (by omega)
              have hb : decide (wd ≤ 32) = true := decide_eq_true (by omega)
              rw [hd]
              go_enter Tryz.func92, Tryz.ntmps92
              go_wp2
              go_ret
              exact ⟨rfl, rfl⟩

theorem pow33 (k : Nat) (h : k ≤ 32) : (2 : Int) ^ k ≤ 4294967296 ∧ (1 : Int) ≤ 2 ^ k := by
  have h1 : (2 : Nat) ^ k ≤ 2 ^ 32 := Nat.pow_le_pow_right (by decide) h
  have h2 : 0 < (2 : Nat) ^ k := Nat.pow_pos (by decide)
  have e : (2 : Int) ^ k = ((2 ^ k : Nat) : Int) := by simp
  have e2 : (2 : Nat) ^ 32 = 4294967296 := by decide
  rw [e]
  omega

set_option maxRecDepth 20000 in
set_option maxHeartbeats 1600000 in
theorem half_spec (b : Int) (h1 : 1 ≤ b) (h33 : b ≤ 33) (w : World) :
    Calls Tryz.prog 96 #[.int .i64 b] w fun e w' => e = .returned (.int .i64 (2 ^ (b - 1).toNat)) ∧ w' = w := by
  obtain ⟨hp1, hp2⟩ := pow33 (b - 1).toNat (by omega)
  have hk : ((b - 1).toNat : Int) = b - 1 := by omega
  generalize hkk : (b - 1).toNat = k at *
  generalize hH : (2 : Int) ^ k = h at *
  go_enter Tryz.func96, Tryz.ntmps96
  go_wp2
  go_ret
  exact ⟨rfl, rfl⟩

set_option maxRecDepth 20000 in
set_option maxHeartbeats 1600000 in
theorem isSample_spec (n wd : Int) (h4 : 4 ≤ wd) (h32 : wd ≤ 32) (w : World) :
    Calls Tryz.prog 95 #[.int .i64 n, .int .i64 wd] w fun e w' => e = .returned (.bool (sampB n wd)) ∧ w' = w := by
  obtain ⟨hp1, hp2⟩ := pow31 (wd - 1).toNat (by omega)
  have kh := half_spec wd (by omega) (by omega)
  unfold sampB
  generalize hH : (2 : Int) ^ (wd - 1).toNat = h at *
  by_cases h1 : -h ≤ n
  · by_cases h2 : n < h
    · have hd : decide (-h ≤ n ∧ n < h) = true := decide_eq_true ⟨h1, h2⟩
      have hb : decide (n < h) = true := decide_eq_true h2
      rw [hd]
      go_enter Tryz.func95, Tryz.ntmps95
      go_wp2_with (go_at_call 96; refine (kh _).mono ?_; rintro e w4 ⟨rfl, rfl⟩)
      go_ret
      exact ⟨rfl, rfl⟩
    · have hd : decide (-h ≤ n ∧ n < h) = false := decide_eq_false (fun c => h2 c.2)
      have hb : decide (n < h) = false := decide_eq_false h2
      rw [hd]
      go_enter Tryz.func95, Tryz.ntmps95
      go_wp2_with (go_at_call 96; refine (kh _).mono ?_; rintro e w4 ⟨rfl, rfl⟩)
      go_ret
      exact ⟨rfl, rfl⟩
  · have hd : decide (-h ≤ n ∧ n < h) = false := decide_eq_false (fun c => h1 c.1)
    rw [hd]
    go_enter Tryz.func95, Tryz.ntmps95
    go_wp2_with (go_at_call 96; refine (kh _).mono ?_; rintro e w4 ⟨rfl, rfl⟩)
    go_ret
    exact ⟨rfl, rfl⟩

def alikeB (a b : Pcm) : Bool := decide (a.rate = b.rate ∧ a.ch = b.ch ∧ a.wd = b.wd)

end Go.Proofs.YtfnkdahocehilaaGreat
