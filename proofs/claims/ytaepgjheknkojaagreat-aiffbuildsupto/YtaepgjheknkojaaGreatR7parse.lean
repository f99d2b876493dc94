/- Own text: the walk of the document's Parse (aiff), its first ends. -/
import Derived.Test.YtaepgjheknkojaaGreatG43x
import Derived.Test.YtaepgjheknkojaaGreatR7comm2
import Derived.Test.YtaepgjheknkojaaGreatR7own
namespace Go.Proofs.YtaepgjheknkojaaGreat
open Go.RowKit
set_option linter.unusedSimpArgs false
set_option linter.unusedVariables false

/-- The answers' boxes and 'none', all zeros. -/
structure Jn7 (w0 w : World) : Prop where
  z : Ja7 w0 zeroP7 zeroW w
  n : w.heap[w0.heap.size + 2]? = some (.cells zeroP7 24 (0, 0))
theorem Jn7.next {w0 w w1 : World} (h : Jn7 w0 w) (hB : Below w.heap.size w w1) : Jn7 w0 w1 := ⟨h.z.next hB, by rw [hB.block _ (lt_of_block h.n)]; exact h.n⟩
theorem Jn7.new (w : World) : Jn7 w (((w.alloc (.cells zeroP7 24)).alloc (.cells zeroW 27)).alloc (.cells zeroP7 24)) := by
  refine ⟨(Ja7.new2 w zeroP7 zeroW).next ((Below.refl _ _).alloc (Nat.le_refl _) _), ?_⟩
  rw [← show ((w.alloc (.cells zeroP7 24)).alloc (.cells zeroW 27)).heap.size = w.heap.size + 2 from by simp]
  exact heap_alloc_new _ _
theorem Jn7.c {w0 w : World} (h : Jn7 w0 w) (j : Nat) (v : Value) (hv : zeroP7[j]? = some v) : w.cell? ⟨w0.heap.size + 2, j, none⟩ = some v := by rw [cell_of_row _ _ _ _ _ _ h.n]; exact hv
theorem Jn7.same {w0 w : World} (h : Jn7 w0 w) : (((((w.setCell ⟨w0.heap.size, 0, none⟩ (.int .i64 0)).setCell ⟨w0.heap.size, 1, none⟩ (.int .i64 0)).setCell ⟨w0.heap.size, 2, none⟩ (.int .i64 0)).setCell ⟨w0.heap.size, 3, none⟩ (.slice none 0 0)).setCell ⟨w0.heap.size + 1, 0, none⟩ (.string ⟨#[]⟩)).setCell ⟨w0.heap.size + 1, 1, none⟩ (.slice none 0 0) = w := by
  rw [set_same7 h.z.rp rfl, set_same7 h.z.rp rfl, set_same7 h.z.rp rfl, set_same7 h.z.rp rfl, set_same7 h.z.rw' rfl, set_same7 h.z.rw' rfl]

set_option maxRecDepth 20000 in
set_option maxHeartbeats 1600000 in
theorem r7parse_short (s : ByteArray) (w : World) (hs : s.size ≤ 140737488351232) (h : s.size < 12) :
    Calls Tryz.prog 7 #[.string s] w fun e w' => e = .returned (.tuple #[.agg zeroP7, .agg zeroW, .int .i64 3]) ∧ Below w.heap.size w w' := by
  have HJ : Hid (Jn7 w (((w.alloc (.cells zeroP7 24)).alloc (.cells zeroW 27)).alloc (.cells zeroP7 24))) := Jn7.new w
  go_enter Tryz.func7, Tryz.ntmps7
  go_wp2_with fail
  exact bodyPost_ret (v := .tuple #[.agg zeroP7, .agg zeroW, .int .i64 (3)]) (res_parse7 rfl HJ.out.z.rp HJ.out.z.rw' rfl rfl _ _ rfl rfl rfl) rfl ⟨rfl, HJ.out.z.below⟩

set_option maxRecDepth 20000 in
set_option maxHeartbeats 1600000 in
theorem r7parse_noform (s : ByteArray) (w : World) (hs : s.size ≤ 140737488351232) (h : 12 ≤ s.size) (h1 : ((s.extract 0 4).toList == formT.toList) = false) :
    Calls Tryz.prog 7 #[.string s] w fun e w' => e = .returned (.tuple #[.agg zeroP7, .agg zeroW, .int .i64 3]) ∧ Below w.heap.size w w' := by
  have sl4 : ∀ wx, (Instr.slice 9 (.string s) none (some (.int .i64 4)) none).run Tryz.prog wx = .ok (.string (s.extract 0 4)) wx := fun wx => by
    have h2j : ¬ ((s.size : Int) < 4) := by omega
    go_simp
  have sl8 : ∀ wx, (Instr.slice 9 (.string s) (some (.int .i64 8)) (some (.int .i64 12)) none).run Tryz.prog wx = .ok (.string (s.extract 8 12)) wx := fun wx => ext_run s 8 12 (by decide) (by omega) wx
  rw [form_list] at h1
  have HJ : Hid (Jn7 w (((w.alloc (.cells zeroP7 24)).alloc (.cells zeroW 27)).alloc (.cells zeroP7 24))) := Jn7.new w
  go_enter Tryz.func7, Tryz.ntmps7
  go_wp2_with fail
  exact bodyPost_ret (v := .tuple #[.agg zeroP7, .agg zeroW, .int .i64 (3)]) (res_parse7 rfl HJ.out.z.rp HJ.out.z.rw' rfl rfl _ _ rfl rfl rfl) rfl ⟨rfl, HJ.out.z.below⟩

set_option maxRecDepth 20000 in
set_option maxHeartbeats 1600000 in
theorem r7parse_nokind (s : ByteArray) (w : World) (hs : s.size ≤ 140737488351232) (h : 12 ≤ s.size) (h1 : ((s.extract 0 4).toList == formT.toList) = true) (h2 : ((s.extract 8 12).toList == aiffT.toList) = false) (h3 : ((s.extract 8 12).toList == aifcT.toList) = false) :
    Calls Tryz.prog 7 #[.string s] w fun e w' => e = .returned (.tuple #[.agg zeroP7, .agg zeroW, .int .i64 3]) ∧ Below w.heap.size w w' := by
  have sl4 : ∀ wx, (Instr.slice 9 (.string s) none (some (.int .i64 4)) none).run Tryz.prog wx = .ok (.string (s.extract 0 4)) wx := fun wx => by
    have h2j : ¬ ((s.size : Int) < 4) := by omega
    go_simp
  have sl8 : ∀ wx, (Instr.slice 9 (.string s) (some (.int .i64 8)) (some (.int .i64 12)) none).run Tryz.prog wx = .ok (.string (s.extract 8 12)) wx := fun wx => ext_run s 8 12 (by decide) (by omega) wx
  rw [form_list] at h1
  rw [aiff_list] at h2
  rw [aifc_list] at h3
  have HJ : Hid (Jn7 w (((w.alloc (.cells zeroP7 24)).alloc (.cells zeroW 27)).alloc (.cells zeroP7 24))) := Jn7.new w
  go_enter Tryz.func7, Tryz.ntmps7
  go_wp2_with fail
  exact bodyPost_ret (v := .tuple #[.agg zeroP7, .agg zeroW, .int .i64 (3)]) (res_parse7 rfl HJ.out.z.rp HJ.out.z.rw' rfl rfl _ _ rfl rfl rfl) rfl ⟨rfl, HJ.out.z.below⟩

set_option maxRecDepth 20000 in
set_option maxHeartbeats 1600000 in
theorem r7parse_large_aiff (s : ByteArray) (w : World) (hs : s.size ≤ 140737488351232) (h : 12 ≤ s.size) (h1 : ((s.extract 0 4).toList == formT.toList) = true) (h2 : ((s.extract 8 12).toList == aiffT.toList) = true) (h4 : 67108864 < s.size) :
    Calls Tryz.prog 7 #[.string s] w fun e w' => e = .returned (.tuple #[.agg zeroP7, .agg zeroW, .int .i64 5]) ∧ Below w.heap.size w w' := by
  have sl4 : ∀ wx, (Instr.slice 9 (.string s) none (some (.int .i64 4)) none).run Tryz.prog wx = .ok (.string (s.extract 0 4)) wx := fun wx => by
    have h2j : ¬ ((s.size : Int) < 4) := by omega
    go_simp
  have sl8 : ∀ wx, (Instr.slice 9 (.string s) (some (.int .i64 8)) (some (.int .i64 12)) none).run Tryz.prog wx = .ok (.string (s.extract 8 12)) wx := fun wx => ext_run s 8 12 (by decide) (by omega) wx
  rw [form_list] at h1
  rw [aiff_list] at h2
  have h4i : decide ((67108864 : Int) < (s.size : Int)) = true := decide_eq_true (by omega)
  have HJ : Hid (Jn7 w (((w.alloc (.cells zeroP7 24)).alloc (.cells zeroW 27)).alloc (.cells zeroP7 24))) := Jn7.new w
  go_enter Tryz.func7, Tryz.ntmps7
  go_wp2_with fail
  exact bodyPost_ret (v := .tuple #[.agg zeroP7, .agg zeroW, .int .i64 (5)]) (res_parse7 rfl HJ.out.z.rp HJ.out.z.rw' rfl rfl _ _ rfl rfl rfl) rfl ⟨rfl, HJ.out.z.below⟩

set_option maxRecDepth 20000 in
set_option maxHeartbeats 1600000 in
theorem r7parse_len_aiff (s : ByteArray) (w : World) (hs : s.size ≤ 140737488351232) (h : 12 ≤ s.size) (h1 : ((s.extract 0 4).toList == formT.toList) = true) (h2 : ((s.extract 8 12).toList == aiffT.toList) = true) (h4 : ¬ 67108864 < s.size) (h5 : (beI s 4 8 != (s.size : Int) - 8) = true) :
    Calls Tryz.prog 7 #[.string s] w fun e w' => e = .returned (.tuple #[.agg zeroP7, .agg zeroW, .int .i64 2]) ∧ Below w.heap.size w w' := by
  have sl4 : ∀ wx, (Instr.slice 9 (.string s) none (some (.int .i64 4)) none).run Tryz.prog wx = .ok (.string (s.extract 0 4)) wx := fun wx => by
    have h2j : ¬ ((s.size : Int) < 4) := by omega
    go_simp
  have sl8 : ∀ wx, (Instr.slice 9 (.string s) (some (.int .i64 8)) (some (.int .i64 12)) none).run Tryz.prog wx = .ok (.string (s.extract 8 12)) wx := fun wx => ext_run s 8 12 (by decide) (by omega) wx
  rw [form_list] at h1
  rw [aiff_list] at h2
  have h4i : decide ((67108864 : Int) < (s.size : Int)) = false := decide_eq_false (by omega)
  have sl48 : ∀ wx, (Instr.slice 9 (.string s) (some (.int .i64 4)) (some (.int .i64 8)) none).run Tryz.prog wx = .ok (.string (s.extract 4 8)) wx := fun wx => ext_run s 4 8 (by decide) (by omega) wx
  have kl : ∀ wx, Calls Tryz.prog 17 #[.string (s.extract 4 8)] wx fun e w' => e = .returned (.int .i64 (beI s 4 8)) ∧ w' = wx := fun wx => reffromBe_spec (s.extract 4 8) (by rw [ByteArray.size_extract]; omega) wx
  generalize beI s 4 8 = LN at *
  have HJ : Hid (Jn7 w (((w.alloc (.cells zeroP7 24)).alloc (.cells zeroW 27)).alloc (.cells zeroP7 24))) := Jn7.new w
  go_enter Tryz.func7, Tryz.ntmps7
  go_wp2_with fail
  refine (kl _).mono ?_
  rintro e w1 ⟨rfl, rfl⟩
  clear kl
  go_wp2_with fail
  exact bodyPost_ret (v := .tuple #[.agg zeroP7, .agg zeroW, .int .i64 2]) (res_parse7 rfl HJ.out.z.rp HJ.out.z.rw' rfl rfl _ _ rfl rfl rfl) rfl ⟨rfl, HJ.out.z.below⟩

set_option maxRecDepth 20000 in
set_option maxHeartbeats 1600000 in
theorem r7parse_chunks_aiff (s : ByteArray) (w : World) (hs : s.size ≤ 140737488351232) (h : 12 ≤ s.size) (h1 : ((s.extract 0 4).toList == formT.toList) = true) (h2 : ((s.extract 8 12).toList == aiffT.toList) = true) (h4 : ¬ 67108864 < s.size) (h5 : (beI s 4 8 != (s.size : Int) - 8) = false) (h6 : ((chunksN (s.extract 12 s.size) true).2 != 0) = true) :
    Calls Tryz.prog 7 #[.string s] w fun e w' => e = .returned (.tuple #[.agg zeroP7, .agg zeroW, .int .i64 (chunksN (s.extract 12 s.size) true).2]) ∧ Below w.heap.size w w' := by
  have sl4 : ∀ wx, (Instr.slice 9 (.string s) none (some (.int .i64 4)) none).run Tryz.prog wx = .ok (.string (s.extract 0 4)) wx := fun wx => by
    have h2j : ¬ ((s.size : Int) < 4) := by omega
    go_simp
  have sl8 : ∀ wx, (Instr.slice 9 (.string s) (some (.int .i64 8)) (some (.int .i64 12)) none).run Tryz.prog wx = .ok (.string (s.extract 8 12)) wx := fun wx => ext_run s 8 12 (by decide) (by omega) wx
  rw [form_list] at h1
  rw [aiff_list] at h2
  have h4i : decide ((67108864 : Int) < (s.size : Int)) = false := decide_eq_false (by omega)
  have sl48 : ∀ wx, (Instr.slice 9 (.string s) (some (.int .i64 4)) (some (.int .i64 8)) none).run Tryz.prog wx = .ok (.string (s.extract 4 8)) wx := fun wx => ext_run s 4 8 (by decide) (by omega) wx
  have sl12 : ∀ wx, (Instr.slice 9 (.string s) (some (.int .i64 12)) none none).run Tryz.prog wx = .ok (.string (s.extract 12 s.size)) wx := fun wx => by
    have h2j : ¬ ((s.size : Int) < 12) := by omega
    go_simp
  have kc := r6chunks_spec (s.extract 12 s.size) true (((w.alloc (.cells zeroP7 24)).alloc (.cells zeroW 27)).alloc (.cells zeroP7 24)) (by rw [ByteArray.size_extract]; omega)
  generalize chunksN (s.extract 12 s.size) true = R at *
  obtain ⟨L, E⟩ := R
  simp only at h6 kc
  simp only
  have kl : ∀ wx, Calls Tryz.prog 17 #[.string (s.extract 4 8)] wx fun e w' => e = .returned (.int .i64 (beI s 4 8)) ∧ w' = wx := fun wx => reffromBe_spec (s.extract 4 8) (by rw [ByteArray.size_extract]; omega) wx
  generalize beI s 4 8 = LN at *
  have HJ : Hid (Jn7 w (((w.alloc (.cells zeroP7 24)).alloc (.cells zeroW 27)).alloc (.cells zeroP7 24))) := Jn7.new w
  go_enter Tryz.func7, Tryz.ntmps7
  go_wp2_with fail
  refine (kl _).mono ?_
  rintro e w1 ⟨rfl, rfl⟩
  clear kl
  go_wp2_with fail
  refine kc.mono ?_
  rintro e w2 ⟨ao, cap, rfl, q2, hB2⟩
  have HJ2 : Hid (Jn7 w w2) := HJ.out.next hB2
  clear kc q2 hB2 HJ
  have p0 := HJ2.out.z.p 0 _ rfl
  have pz0 := HJ2.out.z.pz 0
  have n0 := HJ2.out.c 0 _ rfl
  have p1 := HJ2.out.z.p 1 _ rfl
  have pz1 := HJ2.out.z.pz 1
  have n1 := HJ2.out.c 1 _ rfl
  have p2 := HJ2.out.z.p 2 _ rfl
  have pz2 := HJ2.out.z.pz 2
  have n2 := HJ2.out.c 2 _ rfl
  have p3 := HJ2.out.z.p 3 _ rfl
  have pz3 := HJ2.out.z.pz 3
  have n3 := HJ2.out.c 3 _ rfl
  have a0 := HJ2.out.z.sk 0 _ rfl
  have az0 := HJ2.out.z.wz 0
  have a1 := HJ2.out.z.sk 1 _ rfl
  have az1 := HJ2.out.z.wz 1
  have HSM := HJ2.out.same
  go_wp2_with fail

  exact bodyPost_ret (v := .tuple #[.agg zeroP7, .agg zeroW, .int .i64 (E)]) (res_parse7 rfl HJ2.out.z.rp HJ2.out.z.rw' rfl rfl _ _ rfl rfl rfl) rfl ⟨rfl, HJ2.out.z.below⟩

set_option maxRecDepth 20000 in
set_option maxHeartbeats 1600000 in
theorem r7parse_large_aifc (s : ByteArray) (w : World) (hs : s.size ≤ 140737488351232) (h : 12 ≤ s.size) (h1 : ((s.extract 0 4).toList == formT.toList) = true) (h2 : ((s.extract 8 12).toList == aiffT.toList) = false) (h3 : ((s.extract 8 12).toList == aifcT.toList) = true) (h4 : 67108864 < s.size) :
    Calls Tryz.prog 7 #[.string s] w fun e w' => e = .returned (.tuple #[.agg zeroP7, .agg zeroW, .int .i64 5]) ∧ Below w.heap.size w w' := by
  have sl4 : ∀ wx, (Instr.slice 9 (.string s) none (some (.int .i64 4)) none).run Tryz.prog wx = .ok (.string (s.extract 0 4)) wx := fun wx => by
    have h2j : ¬ ((s.size : Int) < 4) := by omega
    go_simp
  have sl8 : ∀ wx, (Instr.slice 9 (.string s) (some (.int .i64 8)) (some (.int .i64 12)) none).run Tryz.prog wx = .ok (.string (s.extract 8 12)) wx := fun wx => ext_run s 8 12 (by decide) (by omega) wx
  rw [form_list] at h1
  rw [aiff_list] at h2
  rw [aifc_list] at h3
  have h4i : decide ((67108864 : Int) < (s.size : Int)) = true := decide_eq_true (by omega)
  have HJ : Hid (Jn7 w (((w.alloc (.cells zeroP7 24)).alloc (.cells zeroW 27)).alloc (.cells zeroP7 24))) := Jn7.new w
  go_enter Tryz.func7, Tryz.ntmps7
  go_wp2_with fail
  exact bodyPost_ret (v := .tuple #[.agg zeroP7, .agg zeroW, .int .i64 (5)]) (res_parse7 rfl HJ.out.z.rp HJ.out.z.rw' rfl rfl _ _ rfl rfl rfl) rfl ⟨rfl, HJ.out.z.below⟩

set_option maxRecDepth 20000 in
set_option maxHeartbeats 1600000 in
theorem r7parse_len_aifc (s : ByteArray) (w : World) (hs : s.size ≤ 140737488351232) (h : 12 ≤ s.size) (h1 : ((s.extract 0 4).toList == formT.toList) = true) (h2 : ((s.extract 8 12).toList == aiffT.toList) = false) (h3 : ((s.extract 8 12).toList == aifcT.toList) = true) (h4 : ¬ 67108864 < s.size) (h5 : (beI s 4 8 != (s.size : Int) - 8) = true) :
    Calls Tryz.prog 7 #[.string s] w fun e w' => e = .returned (.tuple #[.agg zeroP7, .agg zeroW, .int .i64 2]) ∧ Below w.heap.size w w' := by
  have sl4 : ∀ wx, (Instr.slice 9 (.string s) none (some (.int .i64 4)) none).run Tryz.prog wx = .ok (.string (s.extract 0 4)) wx := fun wx => by
    have h2j : ¬ ((s.size : Int) < 4) := by omega
    go_simp
  have sl8 : ∀ wx, (Instr.slice 9 (.string s) (some (.int .i64 8)) (some (.int .i64 12)) none).run Tryz.prog wx = .ok (.string (s.extract 8 12)) wx := fun wx => ext_run s 8 12 (by decide) (by omega) wx
  rw [form_list] at h1
  rw [aiff_list] at h2
  rw [aifc_list] at h3
  have h4i : decide ((67108864 : Int) < (s.size : Int)) = false := decide_eq_false (by omega)
  have sl48 : ∀ wx, (Instr.slice 9 (.string s) (some (.int .i64 4)) (some (.int .i64 8)) none).run Tryz.prog wx = .ok (.string (s.extract 4 8)) wx := fun wx => ext_run s 4 8 (by decide) (by omega) wx
  have kl : ∀ wx, Calls Tryz.prog 17 #[.string (s.extract 4 8)] wx fun e w' => e = .returned (.int .i64 (beI s 4 8)) ∧ w' = wx := fun wx => reffromBe_spec (s.extract 4 8) (by rw [ByteArray.size_extract]; omega) wx
  generalize beI s 4 8 = LN at *
  have HJ : Hid (Jn7 w (((w.alloc (.cells zeroP7 24)).alloc (.cells zeroW 27)).alloc (.cells zeroP7 24))) := Jn7.new w
  go_enter Tryz.func7, Tryz.ntmps7
  go_wp2_with fail
  refine (kl _).mono ?_
  rintro e w1 ⟨rfl, rfl⟩
  clear kl
  go_wp2_with fail
  exact bodyPost_ret (v := .tuple #[.agg zeroP7, .agg zeroW, .int .i64 2]) (res_parse7 rfl HJ.out.z.rp HJ.out.z.rw' rfl rfl _ _ rfl rfl rfl) rfl ⟨rfl, HJ.out.z.below⟩

set_option maxRecDepth 20000 in
set_option maxHeartbeats 1600000 in
theorem r7parse_chunks_aifc (s : ByteArray) (w : World) (hs : s.size ≤ 140737488351232) (h : 12 ≤ s.size) (h1 : ((s.extract 0 4).toList == formT.toList) = true) (h2 : ((s.extract 8 12).toList == aiffT.toList) = false) (h3 : ((s.extract 8 12).toList == aifcT.toList) = true) (h4 : ¬ 67108864 < s.size) (h5 : (beI s 4 8 != (s.size : Int) - 8) = false) (h6 : ((chunksN (s.extract 12 s.size) true).2 != 0) = true) :
    Calls Tryz.prog 7 #[.string s] w fun e w' => e = .returned (.tuple #[.agg zeroP7, .agg zeroW, .int .i64 (chunksN (s.extract 12 s.size) true).2]) ∧ Below w.heap.size w w' := by
  have sl4 : ∀ wx, (Instr.slice 9 (.string s) none (some (.int .i64 4)) none).run Tryz.prog wx = .ok (.string (s.extract 0 4)) wx := fun wx => by
    have h2j : ¬ ((s.size : Int) < 4) := by omega
    go_simp
  have sl8 : ∀ wx, (Instr.slice 9 (.string s) (some (.int .i64 8)) (some (.int .i64 12)) none).run Tryz.prog wx = .ok (.string (s.extract 8 12)) wx := fun wx => ext_run s 8 12 (by decide) (by omega) wx
  rw [form_list] at h1
  rw [aiff_list] at h2
  rw [aifc_list] at h3
  have h4i : decide ((67108864 : Int) < (s.size : Int)) = false := decide_eq_false (by omega)
  have sl48 : ∀ wx, (Instr.slice 9 (.string s) (some (.int .i64 4)) (some (.int .i64 8)) none).run Tryz.prog wx = .ok (.string (s.extract 4 8)) wx := fun wx => ext_run s 4 8 (by decide) (by omega) wx
  have sl12 : ∀ wx, (Instr.slice 9 (.string s) (some (.int .i64 12)) none none).run Tryz.prog wx = .ok (.string (s.extract 12 s.size)) wx := fun wx => by
    have h2j : ¬ ((s.size : Int) < 12) := by omega
    go_simp
  have kc := r6chunks_spec (s.extract 12 s.size) true (((w.alloc (.cells zeroP7 24)).alloc (.cells zeroW 27)).alloc (.cells zeroP7 24)) (by rw [ByteArray.size_extract]; omega)
  generalize chunksN (s.extract 12 s.size) true = R at *
  obtain ⟨L, E⟩ := R
  simp only at h6 kc
  simp only
  have kl : ∀ wx, Calls Tryz.prog 17 #[.string (s.extract 4 8)] wx fun e w' => e = .returned (.int .i64 (beI s 4 8)) ∧ w' = wx := fun wx => reffromBe_spec (s.extract 4 8) (by rw [ByteArray.size_extract]; omega) wx
  generalize beI s 4 8 = LN at *
  have HJ : Hid (Jn7 w (((w.alloc (.cells zeroP7 24)).alloc (.cells zeroW 27)).alloc (.cells zeroP7 24))) := Jn7.new w
  go_enter Tryz.func7, Tryz.ntmps7
  go_wp2_with fail
  refine (kl _).mono ?_
  rintro e w1 ⟨rfl, rfl⟩
  clear kl
  go_wp2_with fail
  refine kc.mono ?_
  rintro e w2 ⟨ao, cap, rfl, q2, hB2⟩
  have HJ2 : Hid (Jn7 w w2) := HJ.out.next hB2
  clear kc q2 hB2 HJ
  have p0 := HJ2.out.z.p 0 _ rfl
  have pz0 := HJ2.out.z.pz 0
  have n0 := HJ2.out.c 0 _ rfl
  have p1 := HJ2.out.z.p 1 _ rfl
  have pz1 := HJ2.out.z.pz 1
  have n1 := HJ2.out.c 1 _ rfl
  have p2 := HJ2.out.z.p 2 _ rfl
  have pz2 := HJ2.out.z.pz 2
  have n2 := HJ2.out.c 2 _ rfl
  have p3 := HJ2.out.z.p 3 _ rfl
  have pz3 := HJ2.out.z.pz 3
  have n3 := HJ2.out.c 3 _ rfl
  have a0 := HJ2.out.z.sk 0 _ rfl
  have az0 := HJ2.out.z.wz 0
  have a1 := HJ2.out.z.sk 1 _ rfl
  have az1 := HJ2.out.z.wz 1
  have HSM := HJ2.out.same
  go_wp2_with fail

  exact bodyPost_ret (v := .tuple #[.agg zeroP7, .agg zeroW, .int .i64 (E)]) (res_parse7 rfl HJ2.out.z.rp HJ2.out.z.rw' rfl rfl _ _ rfl rfl rfl) rfl ⟨rfl, HJ2.out.z.below⟩

end Go.Proofs.YtaepgjheknkojaaGreat
