/- Own text: the walk of the document's Unpack, its early ends. -/
import Derived.Test.YtolmijpecomkcaaP5unpack2
namespace Go.Proofs.Ytolmijpecomkcaa
open Go.RowKit
set_option linter.unusedSimpArgs false
set_option linter.unusedVariables false

theorem make_rows (C : Nat) (h : C ≤ 8) (w : World) :
    (Instr.makeSlice 22 (.int .i64 (C : Int)) (.int .i64 (C : Int))).run Try.prog w = .ok (.slice (some ⟨w.heap.size, 0, none⟩) C C) (w.alloc (.cells (madeCells #[noS] C) 45)) :=
  run_make_row' 22 45 noS 24 Try.underlying22 infoI rfl .i64 .i64 C (by omega) (by omega) w

theorem getD_rep {α : Type} (n : Nat) (x d : α) (k : Nat) (h : k < n) : (List.replicate n x).getD k d = x := by
  rw [List.getD_eq_getElem?_getD, List.getElem?_replicate, if_pos h]
  rfl
theorem Up.new (w : World) (big uns : Bool) (rate ch wd : Int) (C : Nat) (hC : C ≤ 8) :
    Up w big uns rate ch wd C (List.replicate C noS) (List.replicate C []) ((((w.alloc (.cells #[.bool big, .bool uns] 34)).alloc (.cells zeroP 24)).alloc (.cells (madeCells #[noS] C) 45)).alloc (.cells #[.int .i64 rate, .int .i64 ch, .int .i64 wd, .slice (some ⟨w.heap.size + 2, 0, none⟩) C C] 24)) := by
  have hu := Un.new w big uns
  have h2 := Un.new0 w big uns
  generalize (w.alloc (.cells #[.bool big, .bool uns] 34)).alloc (.cells zeroP 24) = w1 at *
  have hm : (w1.alloc (.cells (madeCells #[noS] C) 45)).ownsRow (w.heap.size + 2) 45 1 (.slice (some ⟨w1.heap.size, 0, none⟩) C C) C (madeCells #[noS] C).toList := World.ownsRow_lit w1 _ C (by omega) (by simp only [maxLen]; omega) (by rw [size_madeCells]; omega)
  rw [h2, toList_madeCells_one] at hm
  have hB : Below w1.heap.size w1 (w1.alloc (.cells (madeCells #[noS] C) 45)) := (Below.refl _ _).alloc (Nat.le_refl _) _
  have h3 : (w1.alloc (.cells (madeCells #[noS] C) 45)).heap.size = w.heap.size + 3 := by simp [h2]
  generalize w1.alloc (.cells (madeCells #[noS] C) 45) = w2 at *
  have hB2 : Below w2.heap.size w2 (w2.alloc (.cells #[.int .i64 rate, .int .i64 ch, .int .i64 wd, .slice (some ⟨w.heap.size + 2, 0, none⟩) C C] 24)) := (Below.refl _ _).alloc (Nat.le_refl _) _
  refine ⟨?_, ?_, ?_, ⟨?_, fun i hi => ?_, fun i j hi hj hij => ?_, fun i hi => ?_⟩, List.length_replicate, fun k hk => ?_, by simp [h3], ?_⟩
  · rw [hB2.block _ (by omega), hB.block _ (by omega)]
    exact hu.lay
  · rw [hB2.block _ (by omega), hB.block _ (by omega)]
    exact hu.res
  · rw [← h3]
    exact heap_alloc_new _ _
  · rw [List.length_replicate]
    exact owns_below hm hB2
  · rw [List.length_replicate] at hi
    rw [getD_rep _ _ _ _ hi, getD_rep _ _ _ _ hi]
    exact World.ownsRow_nil _ _ _ _
  · rw [List.length_replicate] at hi
    rw [getD_rep _ _ _ _ hi]
    exact .inl rfl
  · rw [List.length_replicate] at hi
    rw [getD_rep _ _ _ _ hi]
    exact .inl rfl
  · rw [List.length_replicate] at hk
    rw [getD_rep _ _ _ _ hk]
    exact fun q => (by cases q)
  · exact (hu.below.trans (hB.mono hu.below.size)).trans (hB2.mono (by omega))

theorem uhead_parts {rate ch wd : Int} (h : uheadB rate ch wd = true) : 1 ≤ rate ∧ rate ≤ 655350 ∧ 1 ≤ ch ∧ ch ≤ 8 ∧ 4 ≤ wd ∧ wd ≤ 32 := of_decide_eq_true h

set_option maxRecDepth 20000 in
set_option maxHeartbeats 6400000 in
theorem runpack_two (s : ByteArray) (rate ch wd : Int) (big uns : Bool) (w : World) (hs : s.size ≤ 1000000000000000000) (hh : uheadB rate ch wd = true) (hm : s.size % (nby wd * ch.toNat) ≠ 0) :
    Calls Try.prog 16 #[.string s, .int .i64 rate, .int .i64 ch, .int .i64 wd, .agg #[.bool big, .bool uns]] w fun e w' => Gives w (unpP s rate ch wd big uns) (unpE s rate ch wd big uns) e w' := by
  have HN : Hid (unpE s rate ch wd big uns = 2) := by
    show _ = _
    unfold unpE
    rw [hh, if_pos rfl, if_neg hm]
  have HP : Hid (unpP s rate ch wd big uns = noP) := by
    show _ = _
    unfold unpP
    rw [HN.out]
    rfl
  have HU : Hid (Un w big uns ((w.alloc (.cells #[.bool big, .bool uns] 34)).alloc (.cells zeroP 24))) := Un.new w big uns
  obtain ⟨r1, r2, c1, c2, w1, w2⟩ := uhead_parts hh
  obtain ⟨n1, n2, n3, n4⟩ := nby_range wd w1 w2
  obtain ⟨C, rfl⟩ : ∃ C : Nat, ch = (C : Int) := ⟨ch.toNat, by omega⟩
  have hw : (wd + 7) / 8 = (nby wd : Int) := n4.symm
  rw [Int.toNat_natCast] at hm
  generalize hnb : nby wd = nb at *
  have hmul : (nb : Int) * (C : Int) = ((nb * C : Nat) : Int) := by simp
  have hp1 : 1 ≤ nb * C := Nat.mul_le_mul n1 (by omega : 1 ≤ C)
  have hp2 : nb * C ≤ 4 * 8 := Nat.mul_le_mul n2 (by omega : C ≤ 8)
  generalize nb * C = M at *
  clear hh n4 hnb
  have hb : ((s.size : Int) % (M : Int) == 0) = false := by
    rw [beq_eq_false_iff_ne]
    omega
  have hb2 : s.size % M = 0 ↔ False := by simp [hm]
  go_enter Try.func16, Try.ntmps16
  go_wp2
  generalize hwf : World.alloc _ _ = wf
  have hu : Un w big uns wf := by
    rw [← hwf]
    exact HU.out
  refine bodyPost_ret (v := .tuple #[.agg zeroP, .int .i64 2]) ?_ rfl ⟨none, 0, by rw [HP.out, HN.out]; rfl, by rw [HP.out]; exact rows_none _ _, by rw [HP.out]; exact fresh_none _ _ _, hu.below⟩
  rw [results_two rfl]
  have hld := run_loadVar_row (P := Try.prog) wf (w.heap.size + 1) 24 24 zeroP (0, 0) _ hu.res Try.underlying24 rfl infoP
  simp [asAddr, Result.andThen, hld]

set_option maxRecDepth 20000 in
set_option maxHeartbeats 6400000 in
theorem runpack_five (s : ByteArray) (rate ch wd : Int) (big uns : Bool) (w : World) (hs : s.size ≤ 1000000000000000000) (hh : uheadB rate ch wd = true) (hm : s.size % (nby wd * ch.toNat) = 0) (h5 : 1048576 < s.size / (nby wd * ch.toNat)) :
    Calls Try.prog 16 #[.string s, .int .i64 rate, .int .i64 ch, .int .i64 wd, .agg #[.bool big, .bool uns]] w fun e w' => Gives w (unpP s rate ch wd big uns) (unpE s rate ch wd big uns) e w' := by
  have HN : Hid (unpE s rate ch wd big uns = 5) := by
    show _ = _
    unfold unpE
    rw [hh, if_pos rfl, if_pos hm, if_pos h5]
  have HP : Hid (unpP s rate ch wd big uns = noP) := by
    show _ = _
    unfold unpP
    rw [HN.out]
    rfl
  have HU : Hid (Un w big uns ((w.alloc (.cells #[.bool big, .bool uns] 34)).alloc (.cells zeroP 24))) := Un.new w big uns
  obtain ⟨r1, r2, c1, c2, w1, w2⟩ := uhead_parts hh
  obtain ⟨n1, n2, n3, n4⟩ := nby_range wd w1 w2
  obtain ⟨C, rfl⟩ : ∃ C : Nat, ch = (C : Int) := ⟨ch.toNat, by omega⟩
  have hw : (wd + 7) / 8 = (nby wd : Int) := n4.symm
  rw [Int.toNat_natCast] at hm h5
  generalize hnb : nby wd = nb at *
  have hmul : (nb : Int) * (C : Int) = ((nb * C : Nat) : Int) := by simp
  have hp1 : 1 ≤ nb * C := Nat.mul_le_mul n1 (by omega : 1 ≤ C)
  have hp2 : nb * C ≤ 4 * 8 := Nat.mul_le_mul n2 (by omega : C ≤ 8)
  generalize nb * C = M at *
  clear hh n4 hnb
  have hb : ((s.size : Int) % (M : Int) == 0) = true := by
    rw [beq_iff_eq]
    omega
  have hb2 : s.size % M = 0 ↔ True := by simp [hm]
  have hqd : (s.size : Int) / (M : Int) = ((s.size / M : Nat) : Int) := by simp
  have hqb : s.size / M ≤ s.size := Nat.div_le_self _ _
  generalize s.size / M = Q at *
  go_enter Try.func16, Try.ntmps16
  go_wp2
  generalize hwf : World.alloc _ _ = wf
  have hu : Un w big uns wf := by
    rw [← hwf]
    exact HU.out
  refine bodyPost_ret (v := .tuple #[.agg zeroP, .int .i64 5]) ?_ rfl ⟨none, 0, by rw [HP.out, HN.out]; rfl, by rw [HP.out]; exact rows_none _ _, by rw [HP.out]; exact fresh_none _ _ _, hu.below⟩
  rw [results_two rfl]
  have hld := run_loadVar_row (P := Try.prog) wf (w.heap.size + 1) 24 24 zeroP (0, 0) _ hu.res Try.underlying24 rfl infoP
  simp [asAddr, Result.andThen, hld]

end Go.Proofs.Ytolmijpecomkcaa
