/- Own text: the walk of body: fmt's Body. the walks of the document's SameChunks and Same. -/
import Derived.Test.YtfnkdahocehilaaGreatG15x
import Derived.Deep.RegionHeld3
import Derived.Test.YtfnkdahocehilaaGreatR6chunks
import Derived.Laws.StructEq
namespace Go.Proofs.YtfnkdahocehilaaGreat
open Go.RowKit
set_option linter.unusedSimpArgs false
set_option linter.unusedVariables false

/-- The box of a sound. -/
structure Ja (w0 : World) (a : Snd) (w : World) : Prop where
  cb : w.heap[w0.heap.size]? = some (.cells (sndC a) 73 (0, 0))
  below : Below w0.heap.size w0 w
theorem Ja.new (w : World) (a : Snd) : Ja w a (w.alloc (.cells (sndC a) 73)) := ⟨heap_alloc_new w _, (Below.refl _ _).alloc (Nat.le_refl _) _⟩
theorem Ja.next {w0 w w1 : World} {a : Snd} (h : Ja w0 a w) (hB : Below w.heap.size w w1) : Ja w0 a w1 := ⟨by rw [hB.block _ (lt_of_block h.cb)]; exact h.cb, h.below.trans (hB.mono h.below.size)⟩
theorem Ja.s {w0 w : World} {a : Snd} (h : Ja w0 a w) (j : Nat) (v : Value) (hv : (sndC a)[j]? = some v) : w.cell? ⟨w0.heap.size, j, none⟩ = some v := by rw [cell_of_row _ _ _ _ _ _ h.cb]; exact hv
theorem leT_size (n k : Int) : (leT n k).size ≤ 8 := by
  unfold leT
  split
  · rename_i h
    obtain ⟨m, j, _, rfl, _, h8, _⟩ := fits_nat h
    rw [textOf_size, lowL_length]
    omega
  · exact Nat.zero_le _
theorem headT_eq (a : Snd) (n : Nat) (TG BK RB : Int) (h1 : tagN n = TG) (h2 : blkN a = BK) (h3 : a.rate * BK = RB) : headT a n = leT TG 2 ++ leT a.ch 2 ++ leT a.rate 4 ++ leT RB 4 ++ leT BK 2 ++ leT a.wd 2 := by
  unfold headT
  rw [h2, h1, h3]
theorem wrap_rb {a : Snd} (h : FairS a) : wrap64 (a.rate * blkN a) = a.rate * blkN a := by
  have := h.rb
  generalize a.rate * blkN a = m at *
  simp only [wrap64]
  omega

set_option maxRecDepth 20000 in
set_option maxHeartbeats 6400000 in
theorem body_16 (a : Snd) (h : FairS a) (sp : ByteArray) (hsp : sp.size ≤ 1000000000) (w : World) :
    Calls Tryz.prog 78 #[sndV a, .int .i64 16, .string sp] w fun e w' => e = .returned (.string (bodyT a 16 sp)) ∧ Below w.heap.size w w' := by
  have HJ0 : Hid (Ja w a (w.alloc (.cells (sndC a) 73))) := Ja.new w a
  have KLE : Hid (∀ n k wx, (-9223372036854775808 ≤ n ∧ n ≤ 9223372036854775807) → Hid (Ja w a wx) → Calls Tryz.prog 79 #[.int .i64 n, .int .i64 k] wx fun e w' => e = .returned (.string (leT n k)) ∧ Hid (Ja w a w')) := fun n k wx hn hx =>
    (rle_spec n k hn.1 hn.2 wx).mono fun e w' h => ⟨h.1, hx.out.next h.2⟩
  have KTG : Hid (∀ wx, Hid (Ja w a wx) → Calls Tryz.prog 105 #[.int .i64 16] wx fun e w' => e = .returned (.int .i64 1) ∧ Hid (Ja w a w')) := fun wx hx =>
    (tagOf_spec 16 wx).mono fun e w' h => ⟨h.1, by rw [h.2]; exact hx⟩
  have KBL : Hid (∀ wx, Hid (Ja w a wx) → Calls Tryz.prog 103 #[sndV a] wx fun e w' => e = .returned (.int .i64 (blkN a)) ∧ Hid (Ja w a w')) := fun wx hx =>
    (block_spec a h wx).mono fun e w' h => ⟨h.1, hx.out.next h.2⟩
  have HS : Hid (∀ wx, Hid (Ja w a wx) → wx.cell? ⟨w.heap.size, 0, none⟩ = some (.int .i64 a.rate) ∧ wx.cell? ⟨w.heap.size, 1, none⟩ = some (.int .i64 a.ch) ∧ wx.cell? ⟨w.heap.size, 2, none⟩ = some (.int .i64 a.wd)) := fun wx hx => ⟨hx.out.s 0 _ rfl, hx.out.s 1 _ rfl, hx.out.s 2 _ rfl⟩
  have hbl := h.blk
  have hrb := h.rb
  have hr0 := h.r0
  have hr1 := h.r1
  have hc0 := h.c0
  have hc1 := h.c1
  have hw0 := h.w0
  have hw1 := h.w1
  have hwq : IntKind.i64.wrap (a.rate * blkN a) = a.rate * blkN a := by
    rw [IntKind.wrap_i64]
    have := h.rb
    omega
  have HHT : Hid (headT a 16 = leT 1 2 ++ leT a.ch 2 ++ leT a.rate 4 ++ leT (a.rate * blkN a) 4 ++ leT (blkN a) 2 ++ leT a.wd 2) := headT_eq a 16 1 _ _ rfl rfl rfl
  have HBT : Hid (bodyT a 16 sp = headT a 16) := rfl
  clear h
  have hz : ∀ n k, (leT n k).size ≤ 8 := leT_size
  generalize blkN a = BK at *
  obtain ⟨RB, hRB⟩ : ∃ RB, a.rate * BK = RB := ⟨_, rfl⟩
  have hwr : IntKind.i64.wrap (a.rate * BK) = RB := by rw [hwq]; exact hRB
  clear hwq
  rw [hRB] at hrb HHT
  clear hRB
  have z1 := hz 1 2
  have z2 := hz a.ch 2
  have z3 := hz a.rate 4
  have z4 := hz RB 4
  have z5 := hz BK 2
  have z6 := hz a.wd 2
  have k1 : ¬ (9223372036854775807 < (leT 1 2).size + (leT a.ch 2).size) := by omega
  have k2 : ¬ (9223372036854775807 < (leT 1 2).size + (leT a.ch 2).size + (leT a.rate 4).size) := by omega
  have k3 : ¬ (9223372036854775807 < (leT 1 2).size + (leT a.ch 2).size + (leT a.rate 4).size + (leT RB 4).size) := by omega
  have k4 : ¬ (9223372036854775807 < (leT 1 2).size + (leT a.ch 2).size + (leT a.rate 4).size + (leT RB 4).size + (leT BK 2).size) := by omega
  have k5 : ¬ (9223372036854775807 < (leT 1 2).size + (leT a.ch 2).size + (leT a.rate 4).size + (leT RB 4).size + (leT BK 2).size + (leT a.wd 2).size) := by omega
  clear hz z1 z2 z3 z4 z5 z6
  go_enter Tryz.func78, Tryz.ntmps78
  go_wp2_with fail
  generalize hwa : World.alloc w _ = wa
  have HA : Hid (Ja w a wa) := by
    rw [← hwa]
    exact HJ0.out
  have HD : Hid (Ja w a wa.drew) := HA.out.next ⟨rfl, rfl, rfl, Nat.le_refl _, fun _ _ => rfl⟩
  clear hwa HJ0 HA
  go_region_held3 (fun wx => wx.cell? ⟨w.heap.size, 0, none⟩ = some (.int .i64 a.rate) ∧ wx.cell? ⟨w.heap.size, 1, none⟩ = some (.int .i64 a.ch) ∧ wx.cell? ⟨w.heap.size, 2, none⟩ = some (.int .i64 a.wd)) (exact HS.out _ (by assumption))
    (first
      | (go_at_call 105; refine (KTG.out _ (by assumption)).mono ?_; rintro e w4 ⟨rfl, h4⟩)
      | (go_at_call 103; refine (KBL.out _ (by assumption)).mono ?_; rintro e w4 ⟨rfl, h4⟩)
      | (go_at_call 79; refine (KLE.out _ _ _ ⟨by omega, by omega⟩ (by assumption)).mono ?_; rintro e w4 ⟨rfl, h4⟩))
  have HL : Hid (Ja w a w4) := h4
  clear k1 k2 k3 k4 k5 KTG KBL
  go_wp2_with fail
  go_ret
  exact ⟨by rw [HBT.out, HHT.out]; rfl, HL.out.below⟩

set_option maxRecDepth 20000 in
set_option maxHeartbeats 6400000 in
theorem body_18 (a : Snd) (h : FairS a) (sp : ByteArray) (hsp : sp.size ≤ 1000000000) (w : World) :
    Calls Tryz.prog 78 #[sndV a, .int .i64 18, .string sp] w fun e w' => e = .returned (.string (bodyT a 18 sp)) ∧ Below w.heap.size w w' := by
  have HJ0 : Hid (Ja w a (w.alloc (.cells (sndC a) 73))) := Ja.new w a
  have KLE : Hid (∀ n k wx, (-9223372036854775808 ≤ n ∧ n ≤ 9223372036854775807) → Hid (Ja w a wx) → Calls Tryz.prog 79 #[.int .i64 n, .int .i64 k] wx fun e w' => e = .returned (.string (leT n k)) ∧ Hid (Ja w a w')) := fun n k wx hn hx =>
    (rle_spec n k hn.1 hn.2 wx).mono fun e w' h => ⟨h.1, hx.out.next h.2⟩
  have KTG : Hid (∀ wx, Hid (Ja w a wx) → Calls Tryz.prog 105 #[.int .i64 18] wx fun e w' => e = .returned (.int .i64 1) ∧ Hid (Ja w a w')) := fun wx hx =>
    (tagOf_spec 18 wx).mono fun e w' h => ⟨h.1, by rw [h.2]; exact hx⟩
  have KBL : Hid (∀ wx, Hid (Ja w a wx) → Calls Tryz.prog 103 #[sndV a] wx fun e w' => e = .returned (.int .i64 (blkN a)) ∧ Hid (Ja w a w')) := fun wx hx =>
    (block_spec a h wx).mono fun e w' h => ⟨h.1, hx.out.next h.2⟩
  have HS : Hid (∀ wx, Hid (Ja w a wx) → wx.cell? ⟨w.heap.size, 0, none⟩ = some (.int .i64 a.rate) ∧ wx.cell? ⟨w.heap.size, 1, none⟩ = some (.int .i64 a.ch) ∧ wx.cell? ⟨w.heap.size, 2, none⟩ = some (.int .i64 a.wd)) := fun wx hx => ⟨hx.out.s 0 _ rfl, hx.out.s 1 _ rfl, hx.out.s 2 _ rfl⟩
  have hbl := h.blk
  have hrb := h.rb
  have hr0 := h.r0
  have hr1 := h.r1
  have hc0 := h.c0
  have hc1 := h.c1
  have hw0 := h.w0
  have hw1 := h.w1
  have hwq : IntKind.i64.wrap (a.rate * blkN a) = a.rate * blkN a := by
    rw [IntKind.wrap_i64]
    have := h.rb
    omega
  have HHT : Hid (headT a 18 = leT 1 2 ++ leT a.ch 2 ++ leT a.rate 4 ++ leT (a.rate * blkN a) 4 ++ leT (blkN a) 2 ++ leT a.wd 2) := headT_eq a 18 1 _ _ rfl rfl rfl
  have HBT : Hid (bodyT a 18 sp = headT a 18 ++ leT 0 2) := rfl
  clear h
  have hz : ∀ n k, (leT n k).size ≤ 8 := leT_size
  generalize blkN a = BK at *
  obtain ⟨RB, hRB⟩ : ∃ RB, a.rate * BK = RB := ⟨_, rfl⟩
  have hwr : IntKind.i64.wrap (a.rate * BK) = RB := by rw [hwq]; exact hRB
  clear hwq
  rw [hRB] at hrb HHT
  clear hRB
  have z1 := hz 1 2
  have z2 := hz a.ch 2
  have z3 := hz a.rate 4
  have z4 := hz RB 4
  have z5 := hz BK 2
  have z6 := hz a.wd 2
  have k1 : ¬ (9223372036854775807 < (leT 1 2).size + (leT a.ch 2).size) := by omega
  have k2 : ¬ (9223372036854775807 < (leT 1 2).size + (leT a.ch 2).size + (leT a.rate 4).size) := by omega
  have k3 : ¬ (9223372036854775807 < (leT 1 2).size + (leT a.ch 2).size + (leT a.rate 4).size + (leT RB 4).size) := by omega
  have k4 : ¬ (9223372036854775807 < (leT 1 2).size + (leT a.ch 2).size + (leT a.rate 4).size + (leT RB 4).size + (leT BK 2).size) := by omega
  have k5 : ¬ (9223372036854775807 < (leT 1 2).size + (leT a.ch 2).size + (leT a.rate 4).size + (leT RB 4).size + (leT BK 2).size + (leT a.wd 2).size) := by omega
  clear hz z1 z2 z3 z4 z5 z6
  go_enter Tryz.func78, Tryz.ntmps78
  go_wp2_with fail
  generalize hwa : World.alloc w _ = wa
  have HA : Hid (Ja w a wa) := by
    rw [← hwa]
    exact HJ0.out
  have HD : Hid (Ja w a wa.drew) := HA.out.next ⟨rfl, rfl, rfl, Nat.le_refl _, fun _ _ => rfl⟩
  clear hwa HJ0 HA
  go_region_held3 (fun wx => wx.cell? ⟨w.heap.size, 0, none⟩ = some (.int .i64 a.rate) ∧ wx.cell? ⟨w.heap.size, 1, none⟩ = some (.int .i64 a.ch) ∧ wx.cell? ⟨w.heap.size, 2, none⟩ = some (.int .i64 a.wd)) (exact HS.out _ (by assumption))
    (first
      | (go_at_call 105; refine (KTG.out _ (by assumption)).mono ?_; rintro e w4 ⟨rfl, h4⟩)
      | (go_at_call 103; refine (KBL.out _ (by assumption)).mono ?_; rintro e w4 ⟨rfl, h4⟩)
      | (go_at_call 79; refine (KLE.out _ _ _ ⟨by omega, by omega⟩ (by assumption)).mono ?_; rintro e w4 ⟨rfl, h4⟩))
  have HL : Hid (Ja w a w4) := h4
  clear k1 k2 k3 k4 k5 KTG KBL
  have z1 := leT_size 1 2
  have z2 := leT_size a.ch 2
  have z3 := leT_size a.rate 4
  have z4 := leT_size RB 4
  have z5 := leT_size BK 2
  have z6 := leT_size a.wd 2
  have z7 := leT_size 0 2
  have z8 := leT_size 22 2
  have k6 : ¬ (9223372036854775807 < (leT 1 2).size + (leT a.ch 2).size + (leT a.rate 4).size + (leT RB 4).size + (leT BK 2).size + (leT a.wd 2).size + (leT 0 2).size) := by omega
  clear z1 z2 z3 z4 z5 z6 z7 z8
  have K0 := KLE.out 0 2 _ ⟨by decide, by decide⟩ HL
  go_wp2_with fail
  refine K0.mono ?_
  rintro e w5 ⟨rfl, h5⟩
  clear K0
  go_wp2_with fail
  go_ret
  exact ⟨by rw [HBT.out, HHT.out]; rfl, h5.out.below⟩

set_option maxRecDepth 20000 in
set_option maxHeartbeats 6400000 in
theorem body_40 (a : Snd) (h : FairS a) (sp : ByteArray) (hsp : sp.size ≤ 1000000000) (w : World) :
    Calls Tryz.prog 78 #[sndV a, .int .i64 40, .string sp] w fun e w' => e = .returned (.string (bodyT a 40 sp)) ∧ Below w.heap.size w w' := by
  have HJ0 : Hid (Ja w a (w.alloc (.cells (sndC a) 73))) := Ja.new w a
  have KLE : Hid (∀ n k wx, (-9223372036854775808 ≤ n ∧ n ≤ 9223372036854775807) → Hid (Ja w a wx) → Calls Tryz.prog 79 #[.int .i64 n, .int .i64 k] wx fun e w' => e = .returned (.string (leT n k)) ∧ Hid (Ja w a w')) := fun n k wx hn hx =>
    (rle_spec n k hn.1 hn.2 wx).mono fun e w' h => ⟨h.1, hx.out.next h.2⟩
  have KTG : Hid (∀ wx, Hid (Ja w a wx) → Calls Tryz.prog 105 #[.int .i64 40] wx fun e w' => e = .returned (.int .i64 65534) ∧ Hid (Ja w a w')) := fun wx hx =>
    (tagOf_spec 40 wx).mono fun e w' h => ⟨h.1, by rw [h.2]; exact hx⟩
  have KBL : Hid (∀ wx, Hid (Ja w a wx) → Calls Tryz.prog 103 #[sndV a] wx fun e w' => e = .returned (.int .i64 (blkN a)) ∧ Hid (Ja w a w')) := fun wx hx =>
    (block_spec a h wx).mono fun e w' h => ⟨h.1, hx.out.next h.2⟩
  have HS : Hid (∀ wx, Hid (Ja w a wx) → wx.cell? ⟨w.heap.size, 0, none⟩ = some (.int .i64 a.rate) ∧ wx.cell? ⟨w.heap.size, 1, none⟩ = some (.int .i64 a.ch) ∧ wx.cell? ⟨w.heap.size, 2, none⟩ = some (.int .i64 a.wd)) := fun wx hx => ⟨hx.out.s 0 _ rfl, hx.out.s 1 _ rfl, hx.out.s 2 _ rfl⟩
  have hbl := h.blk
  have hrb := h.rb
  have hr0 := h.r0
  have hr1 := h.r1
  have hc0 := h.c0
  have hc1 := h.c1
  have hw0 := h.w0
  have hw1 := h.w1
  have hwq : IntKind.i64.wrap (a.rate * blkN a) = a.rate * blkN a := by
    rw [IntKind.wrap_i64]
    have := h.rb
    omega
  have HHT : Hid (headT a 40 = leT 65534 2 ++ leT a.ch 2 ++ leT a.rate 4 ++ leT (a.rate * blkN a) 4 ++ leT (blkN a) 2 ++ leT a.wd 2) := headT_eq a 40 65534 _ _ rfl rfl rfl
  have HBT : Hid (bodyT a 40 sp = headT a 40 ++ (leT 22 2 ++ leT a.wd 2 ++ sp ++ guidT)) := rfl
  clear h
  have hz : ∀ n k, (leT n k).size ≤ 8 := leT_size
  generalize blkN a = BK at *
  obtain ⟨RB, hRB⟩ : ∃ RB, a.rate * BK = RB := ⟨_, rfl⟩
  have hwr : IntKind.i64.wrap (a.rate * BK) = RB := by rw [hwq]; exact hRB
  clear hwq
  rw [hRB] at hrb HHT
  clear hRB
  have z1 := hz 65534 2
  have z2 := hz a.ch 2
  have z3 := hz a.rate 4
  have z4 := hz RB 4
  have z5 := hz BK 2
  have z6 := hz a.wd 2
  have k1 : ¬ (9223372036854775807 < (leT 65534 2).size + (leT a.ch 2).size) := by omega
  have k2 : ¬ (9223372036854775807 < (leT 65534 2).size + (leT a.ch 2).size + (leT a.rate 4).size) := by omega
  have k3 : ¬ (9223372036854775807 < (leT 65534 2).size + (leT a.ch 2).size + (leT a.rate 4).size + (leT RB 4).size) := by omega
  have k4 : ¬ (9223372036854775807 < (leT 65534 2).size + (leT a.ch 2).size + (leT a.rate 4).size + (leT RB 4).size + (leT BK 2).size) := by omega
  have k5 : ¬ (9223372036854775807 < (leT 65534 2).size + (leT a.ch 2).size + (leT a.rate 4).size + (leT RB 4).size + (leT BK 2).size + (leT a.wd 2).size) := by omega
  clear hz z1 z2 z3 z4 z5 z6
  go_enter Tryz.func78, Tryz.ntmps78
  go_wp2_with fail
  generalize hwa : World.alloc w _ = wa
  have HA : Hid (Ja w a wa) := by
    rw [← hwa]
    exact HJ0.out
  have HD : Hid (Ja w a wa.drew) := HA.out.next ⟨rfl, rfl, rfl, Nat.le_refl _, fun _ _ => rfl⟩
  clear hwa HJ0 HA
  go_region_held3 (fun wx => wx.cell? ⟨w.heap.size, 0, none⟩ = some (.int .i64 a.rate) ∧ wx.cell? ⟨w.heap.size, 1, none⟩ = some (.int .i64 a.ch) ∧ wx.cell? ⟨w.heap.size, 2, none⟩ = some (.int .i64 a.wd)) (exact HS.out _ (by assumption))
    (first
      | (go_at_call 105; refine (KTG.out _ (by assumption)).mono ?_; rintro e w4 ⟨rfl, h4⟩)
      | (go_at_call 103; refine (KBL.out _ (by assumption)).mono ?_; rintro e w4 ⟨rfl, h4⟩)
      | (go_at_call 79; refine (KLE.out _ _ _ ⟨by omega, by omega⟩ (by assumption)).mono ?_; rintro e w4 ⟨rfl, h4⟩))
  have HL : Hid (Ja w a w4) := h4
  clear k1 k2 k3 k4 k5 KTG KBL
  have z1 := leT_size 65534 2
  have z2 := leT_size a.ch 2
  have z3 := leT_size a.rate 4
  have z4 := leT_size RB 4
  have z5 := leT_size BK 2
  have z6 := leT_size a.wd 2
  have z7 := leT_size 0 2
  have z8 := leT_size 22 2
  have k6 : ¬ (9223372036854775807 < (leT 22 2).size + (leT a.wd 2).size) := by omega
  have k7 : ¬ (9223372036854775807 < (leT 22 2).size + (leT a.wd 2).size + sp.size) := by omega
  have k8 : ¬ (9223372036854775807 < (leT 22 2).size + (leT a.wd 2).size + sp.size + 16) := by omega
  have k9 : ¬ (9223372036854775807 < (leT 65534 2).size + (leT a.ch 2).size + (leT a.rate 4).size + (leT RB 4).size + (leT BK 2).size + (leT a.wd 2).size + ((leT 22 2).size + (leT a.wd 2).size + sp.size + 16)) := by omega
  clear z1 z2 z3 z4 z5 z6 z7 z8
  have HD2 : Hid (Ja w a w4.drew) := HL.out.next ⟨rfl, rfl, rfl, Nat.le_refl _, fun _ _ => rfl⟩
  go_wp2_with fail
  go_region_held3 (fun wx => wx.cell? ⟨w.heap.size, 0, none⟩ = some (.int .i64 a.rate) ∧ wx.cell? ⟨w.heap.size, 1, none⟩ = some (.int .i64 a.ch) ∧ wx.cell? ⟨w.heap.size, 2, none⟩ = some (.int .i64 a.wd)) (exact HS.out _ (by assumption))
    ((go_at_call 79; refine (KLE.out _ _ _ ⟨by omega, by omega⟩ (by assumption)).mono ?_; rintro e w5 ⟨rfl, h5⟩))
  have HL5 : Hid (Ja w a w5) := h5
  go_wp2_with fail
  go_ret
  exact ⟨by rw [HBT.out, HHT.out]; rfl, HL5.out.below⟩

/-- The lengths that fmt can have. -/
def fmtLen (n : Nat) : Prop := n = 16 ∨ n = 18 ∨ n = 40
theorem body_spec (a : Snd) (h : FairS a) (n : Nat) (hn : fmtLen n) (sp : ByteArray) (hsp : sp.size ≤ 1000000000) (w : World) :
    Calls Tryz.prog 78 #[sndV a, .int .i64 (n : Int), .string sp] w fun e w' => e = .returned (.string (bodyT a n sp)) ∧ Below w.heap.size w w' := by
  rcases hn with rfl | rfl | rfl
  · exact body_16 a h sp hsp w
  · exact body_18 a h sp hsp w
  · exact body_40 a h sp hsp w

end Go.Proofs.YtfnkdahocehilaaGreat

namespace Go.Proofs.YtfnkdahocehilaaGreat
open Go.RowKit
set_option linter.unusedSimpArgs false
set_option linter.unusedVariables false

def chkB (a b : Chk) : Bool := a.id.toList == b.id.toList && (a.body.toList == b.body.toList && a.pad == b.pad)
theorem und_chunk : Tryz.prog.underlying 52 = some (.struct (Tryz.prog.fieldsOf 52)) := by kernel_rfl
theorem eq_chk (c d : Chk) (w : World) : (Op.equalIn 10000 52 (.agg #[.string c.id, .string c.body, .int .i64 c.pad]) (.agg #[.string d.id, .string d.body, .int .i64 d.pad])).run Tryz.prog w = .ok (chkB c d) w := by
  unfold chkB
  rw [run_equalIn_struct w 9999 52 _ _ und_chunk (by kernel_rfl)]
  cases h1 : c.id.toList == d.id.toList <;> cases h2 : c.body.toList == d.body.toList <;> cases h3 : c.pad == d.pad <;> go_simp
def sameC : List Chk → List Chk → Bool
  | [], [] => true
  | a :: s, b :: t => chkB a b && sameC s t
  | _, _ => false
theorem neq_chk (c d : Chk) (w : World) : (binOp .neq 52 (.agg #[.string c.id, .string c.body, .int .i64 c.pad]) (.agg #[.string d.id, .string d.body, .int .i64 d.pad])).run Tryz.prog w = .ok (.bool (!chkB c d)) w := by
  rw [run_neq_struct, eq_chk]
  rfl
theorem ChksAt.at {w0 : World} {ao : Option Addr} {l : List Chk} (h : ChksAt w0 ao l) (i : Nat) (c : Chk) (hi : l[i]? = some c) :
    ∃ b off, ao = some ⟨b, off, none⟩ ∧ ∀ w, Below w0.heap.size w0 w → w.cell? ⟨b, off + i * 3, none⟩ = some (.string c.id) ∧ w.cell? ⟨b, off + i * 3 + 1, none⟩ = some (.string c.body) ∧ w.cell? ⟨b, off + i * 3 + 2, none⟩ = some (.int .i64 c.pad) := by
  obtain ⟨b, off, e, hc⟩ := h.lies (by have := (List.getElem?_eq_some_iff.1 hi).1; omega)
  refine ⟨b, off, e, fun w hB => ?_⟩
  obtain ⟨h0, h1, h2⟩ := hc i c hi
  have k : ∀ o, w.cell? ⟨b, o, .none⟩ = w0.cell? ⟨b, o, .none⟩ := fun o => World.cell?_of_block (w := w0) (hB.block b (lt_cell h0))
  exact ⟨by rw [k]; exact h0, by rw [k]; exact h1, by rw [k]; exact h2⟩

theorem sameC_step (l m : List Chk) (k : Nat) (c d : Chk) (hc : l[k]? = some c) (hd : m[k]? = some d) : sameC (l.drop k) (m.drop k) = (chkB c d && sameC (l.drop (k + 1)) (m.drop (k + 1))) := by
  obtain ⟨h1, e1⟩ := List.getElem?_eq_some_iff.1 hc
  obtain ⟨h2, e2⟩ := List.getElem?_eq_some_iff.1 hd
  rw [List.drop_eq_getElem_cons h1, List.drop_eq_getElem_cons h2, e1, e2]
  rfl
theorem sameC_len : ∀ (l m : List Chk), ¬ l.length = m.length → sameC l m = false
  | [], [], h => absurd rfl h
  | [], _ :: _, _ => rfl
  | _ :: _, [], _ => rfl
  | a :: s, b :: t, h => by
    show (chkB a b && sameC s t) = false
    rw [sameC_len s t (fun q => h (by simp [q])), Bool.and_false]

set_option maxRecDepth 20000 in
set_option maxHeartbeats 3200000 in
theorem r6sameChunks_spec (l m : List Chk) (ao bo : Option Addr) (ac bc : Nat) (w : World) (hl : ChksAt w ao l) (hm : ChksAt w bo m) (hll : l.length ≤ 9000000000000000) :
    Calls Tryz.prog 10 #[.slice ao l.length ac, .slice bo m.length bc] w fun e w' => e = .returned (.bool (sameC l m)) ∧ ∃ n, w' = w.drewN n := by
  have HL : Hid (ChksAt w ao l) := hl
  have HM : Hid (ChksAt w bo m) := hm
  clear hl hm
  by_cases hlen : l.length = m.length
  · have HLEN : Hid (l.length = m.length) := hlen
    have hb : ((l.length : Int) != (m.length : Int)) = false := by simp [hlen]
    clear hlen
    go_enter Tryz.func10, Tryz.ntmps10
    go_wp2_with fail
    go_loopw [5] (fun t wr => ∃ k : Nat, k ≤ l.length ∧ t = .int .i64 (k : Int) ∧ sameC l m = sameC (l.drop k) (m.drop k) ∧ ∃ n, wr = w.drewN n) (fun t _ => l.length - (intOf t).toNat)
    case atStart => exact ⟨0, Nat.zero_le _, rfl, rfl, 0, rfl⟩
    case round =>
      obtain ⟨k, hk, rfl, hsm, n, hwn⟩ := hrel
      have HWN : Hid (wr = w.drewN n) := hwn
      have HSM : Hid (sameC l m = sameC (l.drop k) (m.drop k)) := hsm
      have hBn : Below w.heap.size w wr := by rw [hwn]; exact ⟨rfl, rfl, rfl, Nat.le_refl _, fun _ _ => rfl⟩
      clear hwn hsm
      by_cases hlt : k < l.length
      · have hml : k < m.length := by have := HLEN.out; omega
        obtain ⟨c, hc⟩ : ∃ c, l[k]? = some c := ⟨_, List.getElem?_eq_getElem hlt⟩
        obtain ⟨d, hd⟩ : ∃ d, m[k]? = some d := ⟨_, List.getElem?_eq_getElem hml⟩
        obtain ⟨b, off, rfl, hcl⟩ := HL.out.at k c hc
        obtain ⟨b2, off2, rfl, hdl⟩ := HM.out.at k d hd
        obtain ⟨x0, x1, x2⟩ := hcl wr hBn
        obtain ⟨y0, y1, y2⟩ := hdl wr hBn
        have HST : Hid (sameC l m = (chkB c d && sameC (l.drop (k + 1)) (m.drop (k + 1)))) := HSM.out.trans (sameC_step l m k c d hc hd)
        have heq := eq_chk c d
        have hneq := neq_chk c d
        clear hcl hdl hBn hc hd HSM
        cases hcb : chkB c d
        · have HE : Hid (sameC l m = false) := HST.out.trans (by rw [hcb]; rfl)
          rw [hcb] at heq hneq
          clear hcb HST
          go_wp2_with fail
          go_quiet (fail)
          go_wp2_with fail
          go_ret
          exact ⟨by rw [HE.out]; rfl, by rw [HWN.out, World.drewN_drewN]; exact ⟨_, rfl⟩⟩
        · have HE : Hid (sameC l m = sameC (l.drop (k + 1)) (m.drop (k + 1))) := HST.out.trans (by rw [hcb]; rfl)
          rw [hcb] at heq hneq
          clear hcb HST
          go_wp2_with fail
          go_quiet (fail)
          go_wp2_with fail
          go_roundw
          case rel => exact ⟨k + 1, by omega, by go_num, HE.out, by rw [HWN.out, World.drewN_drewN]; exact ⟨_, rfl⟩⟩
          case measure => simp [intOf]; omega
      · have HE : Hid (sameC l m = true) := HSM.out.trans (by
          rw [List.drop_eq_nil_of_le (by omega), List.drop_eq_nil_of_le (by have := HLEN.out; omega)]
          rfl)
        clear HSM hBn
        go_wp2_with fail
        go_ret
        exact ⟨by rw [HE.out]; rfl, n, HWN.out⟩
  · have HE : Hid (sameC l m = false) := sameC_len l m hlen
    have hb : ((l.length : Int) != (m.length : Int)) = true := by simp; omega
    go_enter Tryz.func10, Tryz.ntmps10
    go_wp2_with fail
    go_ret
    exact ⟨by rw [HE.out]; rfl, 0, rfl⟩

/-- A skeleton: its form, its chunks. -/
abbrev waveC (f : ByteArray) (l : List Chk) (ao : Option Addr) (cap : Nat) : Array Value := #[.string f, .slice ao l.length cap]
def sameW (f : ByteArray) (l : List Chk) (g : ByteArray) (m : List Chk) : Bool := f.toList == g.toList && sameC l m
set_option maxRecDepth 20000 in
set_option maxHeartbeats 3200000 in
theorem r6same_spec (f g : ByteArray) (l m : List Chk) (ao bo : Option Addr) (ac bc : Nat) (w : World) (hl : ChksAt w ao l) (hm : ChksAt w bo m) (hll : l.length ≤ 9000000000000000) :
    Calls Tryz.prog 15 #[.agg (waveC f l ao ac), .agg (waveC g m bo bc)] w fun e w' => e = .returned (.bool (sameW f l g m)) ∧ Below w.heap.size w w' := by
  have HB : Hid (Below w.heap.size w ((w.alloc (.cells (waveC f l ao ac) 39)).alloc (.cells (waveC g m bo bc) 39))) := ((Below.refl _ _).alloc (Nat.le_refl _) _).alloc (by simp) _
  have ks := r6sameChunks_spec l m ao bo ac bc ((w.alloc (.cells (waveC f l ao ac) 39)).alloc (.cells (waveC g m bo bc) 39)) (hl.below HB.out) (hm.below HB.out) hll
  have HW : Hid (sameW f l g m = (f.toList == g.toList && sameC l m)) := rfl
  clear hl hm
  cases hfg : f.toList == g.toList
  · rw [hfg] at HW
    go_enter Tryz.func15, Tryz.ntmps15
    go_wp2_with fail
    go_ret
    exact ⟨by rw [HW.out]; rfl, HB.out⟩
  · rw [hfg] at HW
    generalize sameC l m = sb at *
    go_enter Tryz.func15, Tryz.ntmps15
    go_wp2_with fail
    refine ks.mono ?_
    rintro e w2 ⟨rfl, n, hw2⟩
    have HB2 : Hid (Below w.heap.size w w2) := by rw [hw2]; exact ⟨HB.out.os, HB.out.tape, HB.out.output, HB.out.size, HB.out.block⟩
    clear hw2 ks
    go_wp2_with fail
    go_ret
    exact ⟨by rw [HW.out]; rfl, HB2.out⟩

end Go.Proofs.YtfnkdahocehilaaGreat
