/- Own text: the walk of begin. -/
import Derived.Test.YtaepgjheknkojaaGreatG18x
namespace Go.Proofs.YtaepgjheknkojaaGreat
open Go.RowKit
set_option linter.unusedSimpArgs false
set_option linter.unusedVariables false

theorem slice_upto (s : ByteArray) (n : Nat) (h : n ≤ s.size) (w : World) : (Instr.slice 9 (.string s) none (some (.int .i64 (n : Int))) none).run Tryz.prog w = .ok (.string (s.extract 0 n)) w := by
  have := run_slice_string_h (P := Tryz.prog) (w := w) (t := 9) (s := s) Tryz.underlying9 .i64 (n : Int) (by omega) (by omega)
  simpa using this
theorem slice_from (s : ByteArray) (n : Nat) (h : n ≤ s.size) (w : World) : (Instr.slice 9 (.string s) (some (.int .i64 (n : Int))) none none).run Tryz.prog w = .ok (.string (s.extract n s.size)) w := by
  have := run_slice_string_l (P := Tryz.prog) (w := w) (t := 9) (s := s) Tryz.underlying9 .i64 (n : Int) (by omega) (by omega)
  simpa using this
/-- The chunk's box at Q, beside begin's boxes. -/
structure Kb (w0 : World) (z : Siz) (Q : Nat) (c0 c1 c2 : Value) (w : World) : Prop where
  jb : Jb w0 z w
  bq : w.heap[Q]? = some (.cells #[c0, c1, c2] 55 (0, 0))
  lo : w0.heap.size + 1 < Q
theorem Kb.new {w0 w : World} {z : Siz} (h : Jb w0 z w) (c0 c1 c2 : Value) : Kb w0 z w.heap.size c0 c1 c2 (w.alloc (.cells #[c0, c1, c2] 55)) := ⟨h.next ((Below.refl _ _).alloc (Nat.le_refl _) _), heap_alloc_new _ _, lt_of_block h.res⟩
theorem Kb.next {w0 w w1 : World} {z : Siz} {Q : Nat} {c0 c1 c2 : Value} (h : Kb w0 z Q c0 c1 c2 w) (hB : Below w.heap.size w w1) : Kb w0 z Q c0 c1 c2 w1 := ⟨h.jb.next hB, by rw [hB.block _ (lt_of_block h.bq)]; exact h.bq, h.lo⟩
theorem Kb.set {w0 w : World} {z : Siz} {Q : Nat} {c0 c1 c2 : Value} (h : Kb w0 z Q c0 c1 c2 w) (v : Value) : Kb w0 z Q c0 c1 v (w.setCell ⟨Q, 2, none⟩ v) := by
  have hl := h.lo
  refine ⟨⟨?_, ?_, h.jb.below.setCell (by show w0.heap.size ≤ Q; omega) _⟩, ?_, hl⟩
  · rw [Below.heap_setCell _ _ _ _ (by show w0.heap.size ≠ Q; omega)]
    exact h.jb.zb
  · rw [Below.heap_setCell _ _ _ _ (by show w0.heap.size + 1 ≠ Q; omega)]
    exact h.jb.res
  · rw [block_set _ _ _ _ _ _ h.bq]
    rfl
theorem Kb.c {w0 w : World} {z : Siz} {Q : Nat} {c0 c1 c2 : Value} (h : Kb w0 z Q c0 c1 c2 w) (j : Nat) (v : Value) (hv : (#[c0, c1, c2] : Array Value)[j]? = some v) : w.cell? ⟨Q, j, none⟩ = some v := by rw [cell_of_row _ _ _ _ _ _ h.bq]; exact hv
theorem Kb.z {w0 w : World} {z : Siz} {Q : Nat} {c0 c1 c2 : Value} (h : Kb w0 z Q c0 c1 c2 w) (j : Nat) : w.frozen? ⟨Q, j, none⟩ = false := by
  have := h.bq
  simp [World.frozen?, this]

set_option maxRecDepth 20000 in
set_option maxHeartbeats 3200000 in
theorem begin_even (z : Siz) (s : ByteArray) (k : Int) (w : World) (h8 : 8 ≤ s.size) (hs : s.size ≤ 140737488351232) (hid : idB (s.extract 0 4) = true) (hk : k < 1024) (n : Nat) (hn : lenZ z s = (n : Int)) (hle : 8 + n ≤ s.size) (hodd : n % 2 = 0) :
    Calls Tryz.prog 100 #[.agg (sizC z), .string s, .int .i64 k] w fun e w' => e = .returned (.tuple #[.agg #[.string (s.extract 0 4), .string (s.extract 8 (8 + n)), .int .i64 0], .string (s.extract (8 + n) s.size), .int .i64 0]) ∧ Below w.heap.size w w' := by
  have HL0 : Hid (Jb w z ((w.alloc (.cells (sizC z) 145)).alloc (.cells zeroK 55))) := Jb.new w z
  have ki := isId_spec (s.extract 0 4) (by rw [ext_size _ _ _ (by omega) (by omega)]; decide)
  rw [hid] at ki
  have KL : Hid (∀ wx, Hid (Jb w z wx) → Calls Tryz.prog 122 #[.agg (sizC z), .string (s.extract 0 4), .string (s.extract 4 8)] wx fun e w' => e = .returned (.int .i64 (lenZ z s)) ∧ Hid (Jb w z w')) := fun wx hx =>
    (length_spec z (s.extract 0 4) (s.extract 4 8) (by rw [ext_size _ _ _ (by omega) (by omega)]; decide) wx).mono fun e w' h => ⟨h.1, hx.out.next h.2⟩
  have HS : Hid (∀ wx, Hid (Jb w z wx) → wx.cell? ⟨w.heap.size, 0, none⟩ = some (.bool z.big) ∧ wx.cell? ⟨w.heap.size, 1, none⟩ = some (.string z.far) ∧ wx.cell? ⟨w.heap.size, 2, none⟩ = some (.int .i64 z.fl)) := fun wx hx => ⟨hx.out.s 0 _ rfl, hx.out.s 1 _ rfl, hx.out.s 2 _ rfl⟩
  rw [hn] at KL
  have hes : ((s.extract 8 s.size).size : Int) = (s.size : Int) - 8 := by rw [ext_size _ _ _ (by omega) (Nat.le_refl _)]; omega
  have hesn : (s.extract 8 s.size).size = s.size - 8 := ext_size _ _ _ (by omega) (Nat.le_refl _)
  have e1 : (s.extract 8 s.size).extract 0 n = s.extract 8 (8 + n) := by rw [ByteArray.extract_extract, Nat.add_zero, Nat.min_eq_left (by omega)]
  have e2 : (s.extract 8 s.size).extract n (s.extract 8 s.size).size = s.extract (8 + n) s.size := by rw [ByteArray.extract_extract, hesn, Nat.min_eq_right (by omega)]
  have HE1 : Hid ((s.extract 8 s.size).extract 0 n = s.extract 8 (8 + n)) := e1
  have HE2 : Hid ((s.extract 8 s.size).extract n (s.extract 8 s.size).size = s.extract (8 + n) s.size) := e2
  have hsl1 : ∀ w, (Instr.slice 9 (.string (s.extract 8 s.size)) none (some (.int .i64 (n : Int))) none).run Tryz.prog w = .ok (.string (s.extract 8 (8 + n))) w := fun w => by
    rw [← HE1.out]
    exact slice_upto _ n (by omega) w
  have hsl2 : ∀ w, (Instr.slice 9 (.string (s.extract 8 s.size)) (some (.int .i64 (n : Int))) none none).run Tryz.prog w = .ok (.string (s.extract (8 + n) s.size)) w := fun w => by
    rw [← HE2.out]
    exact slice_from _ n (by omega) w
  clear e1 e2 HE1 HE2
  have hodB : oddC ⟨(s.extract 0 4), (s.extract 8 (8 + n)), 0⟩ = false := by
    unfold oddC
    rw [show (s.extract 8 (8 + n)).size = n from by rw [ext_size _ _ _ (by omega) (by omega)]; omega]
    exact decide_eq_false (by omega)
  have ko := isOdd_spec ⟨(s.extract 0 4), (s.extract 8 (8 + n)), 0⟩
  rw [hodB] at ko
  clear hodB
  go_enter Tryz.func100, Tryz.ntmps100
  go_wp2_with fail
  refine (ki _).mono ?_
  rintro e w2 ⟨rfl, rfl⟩
  clear ki
  go_wp2_with fail
  go_quiet (fail)
  go_wp2_with fail
  generalize hwa : World.drewN _ _ = wa
  have HA : Hid (Jb w z wa) := by
    rw [← hwa]
    exact HL0.out.next ⟨rfl, rfl, rfl, Nat.le_refl _, fun _ _ => rfl⟩
  have HD : Hid (Jb w z wa.drew) := HA.out.next ⟨rfl, rfl, rfl, Nat.le_refl _, fun _ _ => rfl⟩
  clear hwa HL0
  go_region_held3 (fun wx => wx.cell? ⟨w.heap.size, 0, none⟩ = some (.bool z.big) ∧ wx.cell? ⟨w.heap.size, 1, none⟩ = some (.string z.far) ∧ wx.cell? ⟨w.heap.size, 2, none⟩ = some (.int .i64 z.fl)) (exact HS.out _ (by assumption))
    ((go_at_call 122; refine (KL.out _ (by assumption)).mono ?_; rintro e w4 ⟨rfl, h4⟩))
  clear KL HS HA HD
  go_wp2_with fail
  have HK : Hid (Kb w z w4.heap.size (.string (s.extract 0 4)) (.string (s.extract 8 (8 + n))) (.int .i64 0) (w4.alloc (.cells #[.string (s.extract 0 4), .string (s.extract 8 (8 + n)), .int .i64 0] 55))) := Kb.new h4.out _ _ _
  generalize w4.alloc (.cells #[.string (s.extract 0 4), .string (s.extract 8 (8 + n)), .int .i64 0] 55) = w5 at *
  generalize w4.heap.size = Q at *
  refine (ko w5).mono ?_
  rintro e w6 ⟨rfl, hB6⟩
  have HK6 : Hid (Kb w z Q (.string (s.extract 0 4)) (.string (s.extract 8 (8 + n))) (.int .i64 0) w6) := HK.out.next hB6
  clear HK hB6 h4 ko
  have f0 := HK6.out.c 0 _ rfl
  have f1 := HK6.out.c 1 _ rfl
  have f2 := HK6.out.c 2 _ rfl
  have lo := HK6.out.lo
  have r0 := HK6.out.jb.c 0 _ rfl
  have r1 := HK6.out.jb.c 1 _ rfl
  have r2 := HK6.out.jb.c 2 _ rfl
  have z0 := HK6.out.jb.z 0
  have z1 := HK6.out.jb.z 1
  have z2 := HK6.out.jb.z 2
  go_wp2_with fail
  obtain ⟨g1, g2⟩ := HK6.out.jb.out (.string (s.extract 0 4)) (.string (s.extract 8 (8 + n))) (.int .i64 0) _ rfl
  exact bodyPost_ret (v := .tuple #[.agg #[.string (s.extract 0 4), .string (s.extract 8 (8 + n)), .int .i64 0], .string (s.extract (8 + n) s.size), .int .i64 0]) (begin_ret g1 _ _ _ rfl rfl rfl) rfl ⟨rfl, g2⟩

set_option maxRecDepth 20000 in
set_option maxHeartbeats 3200000 in
theorem begin_end (z : Siz) (s : ByteArray) (k : Int) (w : World) (h8 : 8 ≤ s.size) (hs : s.size ≤ 140737488351232) (hid : idB (s.extract 0 4) = true) (hk : k < 1024) (n : Nat) (hn : lenZ z s = (n : Int)) (hle : 8 + n ≤ s.size) (hodd : n % 2 = 1) (hlt : ¬ 8 + n < s.size) :
    Calls Tryz.prog 100 #[.agg (sizC z), .string s, .int .i64 k] w fun e w' => e = .returned (.tuple #[.agg #[.string (s.extract 0 4), .string (s.extract 8 (8 + n)), .int .i64 (-1)], .string (s.extract (8 + n) s.size), .int .i64 0]) ∧ Below w.heap.size w w' := by
  have HL0 : Hid (Jb w z ((w.alloc (.cells (sizC z) 145)).alloc (.cells zeroK 55))) := Jb.new w z
  have ki := isId_spec (s.extract 0 4) (by rw [ext_size _ _ _ (by omega) (by omega)]; decide)
  rw [hid] at ki
  have KL : Hid (∀ wx, Hid (Jb w z wx) → Calls Tryz.prog 122 #[.agg (sizC z), .string (s.extract 0 4), .string (s.extract 4 8)] wx fun e w' => e = .returned (.int .i64 (lenZ z s)) ∧ Hid (Jb w z w')) := fun wx hx =>
    (length_spec z (s.extract 0 4) (s.extract 4 8) (by rw [ext_size _ _ _ (by omega) (by omega)]; decide) wx).mono fun e w' h => ⟨h.1, hx.out.next h.2⟩
  have HS : Hid (∀ wx, Hid (Jb w z wx) → wx.cell? ⟨w.heap.size, 0, none⟩ = some (.bool z.big) ∧ wx.cell? ⟨w.heap.size, 1, none⟩ = some (.string z.far) ∧ wx.cell? ⟨w.heap.size, 2, none⟩ = some (.int .i64 z.fl)) := fun wx hx => ⟨hx.out.s 0 _ rfl, hx.out.s 1 _ rfl, hx.out.s 2 _ rfl⟩
  rw [hn] at KL
  have hes : ((s.extract 8 s.size).size : Int) = (s.size : Int) - 8 := by rw [ext_size _ _ _ (by omega) (Nat.le_refl _)]; omega
  have hesn : (s.extract 8 s.size).size = s.size - 8 := ext_size _ _ _ (by omega) (Nat.le_refl _)
  have e1 : (s.extract 8 s.size).extract 0 n = s.extract 8 (8 + n) := by rw [ByteArray.extract_extract, Nat.add_zero, Nat.min_eq_left (by omega)]
  have e2 : (s.extract 8 s.size).extract n (s.extract 8 s.size).size = s.extract (8 + n) s.size := by rw [ByteArray.extract_extract, hesn, Nat.min_eq_right (by omega)]
  have HE1 : Hid ((s.extract 8 s.size).extract 0 n = s.extract 8 (8 + n)) := e1
  have HE2 : Hid ((s.extract 8 s.size).extract n (s.extract 8 s.size).size = s.extract (8 + n) s.size) := e2
  have hsl1 : ∀ w, (Instr.slice 9 (.string (s.extract 8 s.size)) none (some (.int .i64 (n : Int))) none).run Tryz.prog w = .ok (.string (s.extract 8 (8 + n))) w := fun w => by
    rw [← HE1.out]
    exact slice_upto _ n (by omega) w
  have hsl2 : ∀ w, (Instr.slice 9 (.string (s.extract 8 s.size)) (some (.int .i64 (n : Int))) none none).run Tryz.prog w = .ok (.string (s.extract (8 + n) s.size)) w := fun w => by
    rw [← HE2.out]
    exact slice_from _ n (by omega) w
  clear e1 e2 HE1 HE2
  have hodB : oddC ⟨(s.extract 0 4), (s.extract 8 (8 + n)), 0⟩ = true := by
    unfold oddC
    rw [show (s.extract 8 (8 + n)).size = n from by rw [ext_size _ _ _ (by omega) (by omega)]; omega]
    exact decide_eq_true (by omega)
  have ko := isOdd_spec ⟨(s.extract 0 4), (s.extract 8 (8 + n)), 0⟩
  rw [hodB] at ko
  have kp := padOf_none (s.extract (8 + n) s.size) (by rw [ext_size _ _ _ (by omega) (Nat.le_refl _)]; omega)
  clear hodB
  go_enter Tryz.func100, Tryz.ntmps100
  go_wp2_with fail
  refine (ki _).mono ?_
  rintro e w2 ⟨rfl, rfl⟩
  clear ki
  go_wp2_with fail
  go_quiet (fail)
  go_wp2_with fail
  generalize hwa : World.drewN _ _ = wa
  have HA : Hid (Jb w z wa) := by
    rw [← hwa]
    exact HL0.out.next ⟨rfl, rfl, rfl, Nat.le_refl _, fun _ _ => rfl⟩
  have HD : Hid (Jb w z wa.drew) := HA.out.next ⟨rfl, rfl, rfl, Nat.le_refl _, fun _ _ => rfl⟩
  clear hwa HL0
  go_region_held3 (fun wx => wx.cell? ⟨w.heap.size, 0, none⟩ = some (.bool z.big) ∧ wx.cell? ⟨w.heap.size, 1, none⟩ = some (.string z.far) ∧ wx.cell? ⟨w.heap.size, 2, none⟩ = some (.int .i64 z.fl)) (exact HS.out _ (by assumption))
    ((go_at_call 122; refine (KL.out _ (by assumption)).mono ?_; rintro e w4 ⟨rfl, h4⟩))
  clear KL HS HA HD
  go_wp2_with fail
  have HK : Hid (Kb w z w4.heap.size (.string (s.extract 0 4)) (.string (s.extract 8 (8 + n))) (.int .i64 0) (w4.alloc (.cells #[.string (s.extract 0 4), .string (s.extract 8 (8 + n)), .int .i64 0] 55))) := Kb.new h4.out _ _ _
  generalize w4.alloc (.cells #[.string (s.extract 0 4), .string (s.extract 8 (8 + n)), .int .i64 0] 55) = w5 at *
  generalize w4.heap.size = Q at *
  refine (ko w5).mono ?_
  rintro e w6 ⟨rfl, hB6⟩
  have HK6 : Hid (Kb w z Q (.string (s.extract 0 4)) (.string (s.extract 8 (8 + n))) (.int .i64 0) w6) := HK.out.next hB6
  clear HK hB6 h4 ko
  go_wp2_with fail
  refine (kp w6).mono ?_
  rintro e w7 ⟨rfl, hB7⟩
  have HK7 : Hid (Kb w z Q (.string (s.extract 0 4)) (.string (s.extract 8 (8 + n))) (.int .i64 0) w7) := HK6.out.next hB7
  clear HK6 hB7 kp
  have d2 := HK7.out.c 2 _ rfl
  have y2 := HK7.out.z 2
  have lo := HK7.out.lo
  have HK8 : Hid (Kb w z Q (.string (s.extract 0 4)) (.string (s.extract 8 (8 + n))) (.int .i64 (-1)) (w7.setCell ⟨Q, 2, none⟩ (.int .i64 (-1)))) := HK7.out.set _
  have f0 := HK8.out.c 0 _ rfl
  have f1 := HK8.out.c 1 _ rfl
  have f2 := HK8.out.c 2 _ rfl
  have r0 := HK8.out.jb.c 0 _ rfl
  have r1 := HK8.out.jb.c 1 _ rfl
  have r2 := HK8.out.jb.c 2 _ rfl
  have z0 := HK8.out.jb.z 0
  have z1 := HK8.out.jb.z 1
  have z2 := HK8.out.jb.z 2
  go_wp2_with fail
  obtain ⟨g1, g2⟩ := HK8.out.jb.out (.string (s.extract 0 4)) (.string (s.extract 8 (8 + n))) (.int .i64 (-1)) _ rfl
  exact bodyPost_ret (v := .tuple #[.agg #[.string (s.extract 0 4), .string (s.extract 8 (8 + n)), .int .i64 (-1)], .string (s.extract (8 + n) s.size), .int .i64 0]) (begin_ret g1 _ _ _ rfl rfl rfl) rfl ⟨rfl, g2⟩

set_option maxRecDepth 20000 in
set_option maxHeartbeats 3200000 in
theorem begin_pad (z : Siz) (s : ByteArray) (k : Int) (w : World) (h8 : 8 ≤ s.size) (hs : s.size ≤ 140737488351232) (hid : idB (s.extract 0 4) = true) (hk : k < 1024) (n : Nat) (hn : lenZ z s = (n : Int)) (hle : 8 + n ≤ s.size) (hodd : n % 2 = 1) (hlt : 8 + n < s.size) :
    Calls Tryz.prog 100 #[.agg (sizC z), .string s, .int .i64 k] w fun e w' => e = .returned (.tuple #[.agg #[.string (s.extract 0 4), .string (s.extract 8 (8 + n)), .int .i64 ((bytesOf s).getD (8 + n) 0 : Int)], .string (s.extract (8 + n + 1) s.size), .int .i64 0]) ∧ Below w.heap.size w w' := by
  have HL0 : Hid (Jb w z ((w.alloc (.cells (sizC z) 145)).alloc (.cells zeroK 55))) := Jb.new w z
  have ki := isId_spec (s.extract 0 4) (by rw [ext_size _ _ _ (by omega) (by omega)]; decide)
  rw [hid] at ki
  have KL : Hid (∀ wx, Hid (Jb w z wx) → Calls Tryz.prog 122 #[.agg (sizC z), .string (s.extract 0 4), .string (s.extract 4 8)] wx fun e w' => e = .returned (.int .i64 (lenZ z s)) ∧ Hid (Jb w z w')) := fun wx hx =>
    (length_spec z (s.extract 0 4) (s.extract 4 8) (by rw [ext_size _ _ _ (by omega) (by omega)]; decide) wx).mono fun e w' h => ⟨h.1, hx.out.next h.2⟩
  have HS : Hid (∀ wx, Hid (Jb w z wx) → wx.cell? ⟨w.heap.size, 0, none⟩ = some (.bool z.big) ∧ wx.cell? ⟨w.heap.size, 1, none⟩ = some (.string z.far) ∧ wx.cell? ⟨w.heap.size, 2, none⟩ = some (.int .i64 z.fl)) := fun wx hx => ⟨hx.out.s 0 _ rfl, hx.out.s 1 _ rfl, hx.out.s 2 _ rfl⟩
  rw [hn] at KL
  have hes : ((s.extract 8 s.size).size : Int) = (s.size : Int) - 8 := by rw [ext_size _ _ _ (by omega) (Nat.le_refl _)]; omega
  have hesn : (s.extract 8 s.size).size = s.size - 8 := ext_size _ _ _ (by omega) (Nat.le_refl _)
  have e1 : (s.extract 8 s.size).extract 0 n = s.extract 8 (8 + n) := by rw [ByteArray.extract_extract, Nat.add_zero, Nat.min_eq_left (by omega)]
  have e2 : (s.extract 8 s.size).extract n (s.extract 8 s.size).size = s.extract (8 + n) s.size := by rw [ByteArray.extract_extract, hesn, Nat.min_eq_right (by omega)]
  have HE1 : Hid ((s.extract 8 s.size).extract 0 n = s.extract 8 (8 + n)) := e1
  have HE2 : Hid ((s.extract 8 s.size).extract n (s.extract 8 s.size).size = s.extract (8 + n) s.size) := e2
  have hsl1 : ∀ w, (Instr.slice 9 (.string (s.extract 8 s.size)) none (some (.int .i64 (n : Int))) none).run Tryz.prog w = .ok (.string (s.extract 8 (8 + n))) w := fun w => by
    rw [← HE1.out]
    exact slice_upto _ n (by omega) w
  have hsl2 : ∀ w, (Instr.slice 9 (.string (s.extract 8 s.size)) (some (.int .i64 (n : Int))) none none).run Tryz.prog w = .ok (.string (s.extract (8 + n) s.size)) w := fun w => by
    rw [← HE2.out]
    exact slice_from _ n (by omega) w
  clear e1 e2 HE1 HE2
  have hodB : oddC ⟨(s.extract 0 4), (s.extract 8 (8 + n)), 0⟩ = true := by
    unfold oddC
    rw [show (s.extract 8 (8 + n)).size = n from by rw [ext_size _ _ _ (by omega) (by omega)]; omega]
    exact decide_eq_true (by omega)
  have ko := isOdd_spec ⟨(s.extract 0 4), (s.extract 8 (8 + n)), 0⟩
  rw [hodB] at ko
  have kp := padOf_some (s.extract (8 + n) s.size) (by rw [ext_size _ _ _ (by omega) (Nat.le_refl _)]; omega) (by rw [ext_size _ _ _ (by omega) (Nat.le_refl _)]; omega)
  have hq1 : (bytesOf (s.extract (8 + n) s.size)).getD 0 0 = (bytesOf s).getD (8 + n) 0 := by
    rw [bytesOf_extract, List.take_of_length_le (by rw [bytesOf_length]; exact Nat.le_refl _), List.getD_eq_getElem?_getD, List.getElem?_drop, Nat.add_zero, ← List.getD_eq_getElem?_getD]
  have hq2 : (s.extract (8 + n) s.size).extract 1 (s.extract (8 + n) s.size).size = s.extract (8 + n + 1) s.size := by
    rw [ByteArray.extract_extract, ext_size _ _ _ (by omega) (Nat.le_refl _), Nat.min_eq_right (by omega)]
  rw [hq1, hq2] at kp
  clear hq1 hq2
  generalize (bytesOf s).getD (8 + n) 0 = PB at *
  clear hodB
  go_enter Tryz.func100, Tryz.ntmps100
  go_wp2_with fail
  refine (ki _).mono ?_
  rintro e w2 ⟨rfl, rfl⟩
  clear ki
  go_wp2_with fail
  go_quiet (fail)
  go_wp2_with fail
  generalize hwa : World.drewN _ _ = wa
  have HA : Hid (Jb w z wa) := by
    rw [← hwa]
    exact HL0.out.next ⟨rfl, rfl, rfl, Nat.le_refl _, fun _ _ => rfl⟩
  have HD : Hid (Jb w z wa.drew) := HA.out.next ⟨rfl, rfl, rfl, Nat.le_refl _, fun _ _ => rfl⟩
  clear hwa HL0
  go_region_held3 (fun wx => wx.cell? ⟨w.heap.size, 0, none⟩ = some (.bool z.big) ∧ wx.cell? ⟨w.heap.size, 1, none⟩ = some (.string z.far) ∧ wx.cell? ⟨w.heap.size, 2, none⟩ = some (.int .i64 z.fl)) (exact HS.out _ (by assumption))
    ((go_at_call 122; refine (KL.out _ (by assumption)).mono ?_; rintro e w4 ⟨rfl, h4⟩))
  clear KL HS HA HD
  go_wp2_with fail
  have HK : Hid (Kb w z w4.heap.size (.string (s.extract 0 4)) (.string (s.extract 8 (8 + n))) (.int .i64 0) (w4.alloc (.cells #[.string (s.extract 0 4), .string (s.extract 8 (8 + n)), .int .i64 0] 55))) := Kb.new h4.out _ _ _
  generalize w4.alloc (.cells #[.string (s.extract 0 4), .string (s.extract 8 (8 + n)), .int .i64 0] 55) = w5 at *
  generalize w4.heap.size = Q at *
  refine (ko w5).mono ?_
  rintro e w6 ⟨rfl, hB6⟩
  have HK6 : Hid (Kb w z Q (.string (s.extract 0 4)) (.string (s.extract 8 (8 + n))) (.int .i64 0) w6) := HK.out.next hB6
  clear HK hB6 h4 ko
  go_wp2_with fail
  refine (kp w6).mono ?_
  rintro e w7 ⟨rfl, hB7⟩
  have HK7 : Hid (Kb w z Q (.string (s.extract 0 4)) (.string (s.extract 8 (8 + n))) (.int .i64 0) w7) := HK6.out.next hB7
  clear HK6 hB7 kp
  have d2 := HK7.out.c 2 _ rfl
  have y2 := HK7.out.z 2
  have lo := HK7.out.lo
  have HK8 : Hid (Kb w z Q (.string (s.extract 0 4)) (.string (s.extract 8 (8 + n))) (.int .i64 (PB : Int)) (w7.setCell ⟨Q, 2, none⟩ (.int .i64 (PB : Int)))) := HK7.out.set _
  have f0 := HK8.out.c 0 _ rfl
  have f1 := HK8.out.c 1 _ rfl
  have f2 := HK8.out.c 2 _ rfl
  have r0 := HK8.out.jb.c 0 _ rfl
  have r1 := HK8.out.jb.c 1 _ rfl
  have r2 := HK8.out.jb.c 2 _ rfl
  have z0 := HK8.out.jb.z 0
  have z1 := HK8.out.jb.z 1
  have z2 := HK8.out.jb.z 2
  go_wp2_with fail
  obtain ⟨g1, g2⟩ := HK8.out.jb.out (.string (s.extract 0 4)) (.string (s.extract 8 (8 + n))) (.int .i64 (PB : Int)) _ rfl
  exact bodyPost_ret (v := .tuple #[.agg #[.string (s.extract 0 4), .string (s.extract 8 (8 + n)), .int .i64 (PB : Int)], .string (s.extract (8 + n + 1) s.size), .int .i64 0]) (begin_ret g1 _ _ _ rfl rfl rfl) rfl ⟨rfl, g2⟩

theorem begN_le (z : Siz) (s : ByteArray) (h : begB z s = true) : 8 ≤ begN z s ∧ begN z s ≤ s.size := by
  unfold begB at h
  obtain ⟨h1, h2⟩ := Bool.and_eq_true_iff.1 h
  obtain ⟨_, h3⟩ := Bool.and_eq_true_iff.1 h2
  obtain ⟨h4, h5⟩ := Bool.and_eq_true_iff.1 h3
  have h1 := of_decide_eq_true h1
  have h4 := of_decide_eq_true h4
  have h5 := of_decide_eq_true h5
  unfold begN
  split <;> omega
theorem begin_yes (z : Siz) (s : ByteArray) (k : Int) (w : World) (hs : s.size ≤ 140737488351232) (h : begB z s = true) (hk : k < 1024) :
    Calls Tryz.prog 100 #[.agg (sizC z), .string s, .int .i64 k] w fun e w' => e = .returned (.tuple #[chkV (begC z s), .string (begR z s), .int .i64 0]) ∧ Below w.heap.size w w' := by
  have h0 := h
  unfold begB at h
  obtain ⟨h1, h2⟩ := Bool.and_eq_true_iff.1 h
  obtain ⟨hid, h3⟩ := Bool.and_eq_true_iff.1 h2
  obtain ⟨h4, h5⟩ := Bool.and_eq_true_iff.1 h3
  have h8 := of_decide_eq_true h1
  have h4 := of_decide_eq_true h4
  have h5 := of_decide_eq_true h5
  obtain ⟨n, hn⟩ : ∃ n : Nat, lenZ z s = (n : Int) := ⟨(lenZ z s).toNat, by omega⟩
  have hN : (lenZ z s).toNat = n := by omega
  have hle : 8 + n ≤ s.size := by omega
  have e1 : chkV (begC z s) = .agg #[.string (s.extract 0 4), .string (s.extract 8 (8 + n)), .int .i64 (padC s n)] := by
    show Value.agg #[.string (s.extract 0 4), .string (s.extract 8 (8 + (lenZ z s).toNat)), .int .i64 (padC s (lenZ z s).toNat)] = _
    rw [hN]
  have e2 : begN z s = 8 + n + (if n % 2 = 1 ∧ 8 + n < s.size then 1 else 0) := by
    unfold begN
    rw [hN]
  unfold begR
  rw [e1, e2]
  unfold padC
  by_cases hodd : n % 2 = 1
  · by_cases hlt : 8 + n < s.size
    · rw [if_pos hodd, if_pos hlt, if_pos ⟨hodd, hlt⟩]
      exact begin_pad z s k w h8 hs hid hk n hn hle hodd hlt
    · rw [if_pos hodd, if_neg hlt, if_neg (fun q => hlt q.2)]
      exact begin_end z s k w h8 hs hid hk n hn hle hodd hlt
  · rw [if_neg hodd, if_neg (fun q => hodd q.1)]
    exact begin_even z s k w h8 hs hid hk n hn hle (by omega)
theorem begin_no (z : Siz) (s : ByteArray) (k : Int) (w : World) (hs : s.size ≤ 140737488351232) (h : begB z s = false) :
    Calls Tryz.prog 100 #[.agg (sizC z), .string s, .int .i64 k] w fun e w' => e = .returned (.tuple #[.agg zeroK, .string ⟨#[]⟩, .int .i64 2]) ∧ Below w.heap.size w w' := by
  by_cases h8 : 8 ≤ s.size
  · cases hid : idB (s.extract 0 4)
    · exact begin_noid z s k w h8 hs hid
    · refine begin_far z s k w h8 hs hid ?_
      unfold begB at h
      rw [hid, decide_eq_true h8] at h
      simp only [Bool.true_and] at h
      by_cases h0 : 0 ≤ lenZ z s
      · rw [decide_eq_true h0, Bool.true_and] at h
        have := of_decide_eq_false h
        omega
      · omega
  · exact begin_short z s k w (by omega)
theorem begin_full (z : Siz) (s : ByteArray) (k : Int) (w : World) (hs : s.size ≤ 140737488351232) (h : begB z s = true) (hk : 1024 ≤ k) :
    Calls Tryz.prog 100 #[.agg (sizC z), .string s, .int .i64 k] w fun e w' => e = .returned (.tuple #[.agg zeroK, .string ⟨#[]⟩, .int .i64 5]) ∧ Below w.heap.size w w' := by
  unfold begB at h
  obtain ⟨h1, h2⟩ := Bool.and_eq_true_iff.1 h
  obtain ⟨hid, h3⟩ := Bool.and_eq_true_iff.1 h2
  obtain ⟨h4, h5⟩ := Bool.and_eq_true_iff.1 h3
  exact begin_many z s k w (of_decide_eq_true h1) hs hid (of_decide_eq_true h4) (of_decide_eq_true h5) hk

end Go.Proofs.YtaepgjheknkojaaGreat
