/- Own text: the walk of the program's Unpack, its early ends. -/
import Derived.Test.YtaepgjheknkojaaG41x
namespace Go.Proofs.Ytaepgjheknkojaa
open Go.RowKit
set_option linter.unusedSimpArgs false
set_option linter.unusedVariables false

set_option maxRecDepth 20000 in
set_option maxHeartbeats 6400000 in
theorem unpack_two (s : ByteArray) (rate ch wd : Int) (big uns : Bool) (w : World) (hs : s.size ≤ 1000000000000000000) (hh : mayB rate ch wd = true) (hm : s.size % (nby wd * ch.toNat) ≠ 0) :
    Calls Try.prog 50 #[.string s, .int .i64 rate, .int .i64 ch, .int .i64 wd, .agg #[.bool big, .bool uns]] w fun e w' => GivesU w (uP s rate ch wd big uns) (uE s rate ch wd big uns) e w' := by
  have HN : Hid (uE s rate ch wd big uns = 2) := by
    show _ = _
    unfold uE
    rw [hh, if_pos rfl, if_neg hm]
  have HP : Hid (uP s rate ch wd big uns = ⟨0, 0, 0, []⟩) := by
    show _ = _
    unfold uP
    rw [HN.out]
    rfl
  obtain ⟨r1, r2, c1, c2, w1, w2⟩ : 1 ≤ rate ∧ rate ≤ 655350 ∧ 1 ≤ ch ∧ ch ≤ 8 ∧ 4 ≤ wd ∧ wd ≤ 32 := of_decide_eq_true hh
  have n1 := (nby_range wd w1 w2).1
  have n2 := (nby_range wd w1 w2).2.1
  obtain ⟨c, rfl⟩ : ∃ c : Nat, ch = (c : Int) := ⟨ch.toNat, by omega⟩
  rw [Int.toNat_natCast] at *
  have HU : Hid (Ub w s wd big uns ((((w.alloc (.cells #[.string s] 9)).alloc (.cells #[.int .i64 wd] 3)).alloc (.cells #[.bool big, .bool uns] 52)).alloc (.cells zeroC 24))) := Ub.new w s wd big uns
  have d1 : ((((w.alloc (.cells #[.string s] 9)).alloc (.cells #[.int .i64 wd] 3)).alloc (.cells #[.bool big, .bool uns] 52)).alloc (.cells zeroC 24)).cell? ⟨w.heap.size + 1, 0, none⟩ = some (.int .i64 wd) := by rw [cell_of_row _ _ _ _ _ _ HU.out.wb]; rfl
  have d2 : ((((w.alloc (.cells #[.string s] 9)).alloc (.cells #[.int .i64 wd] 3)).alloc (.cells #[.bool big, .bool uns] 52)).alloc (.cells zeroC 24)).cell? ⟨w.heap.size + 1 + 1, 0, none⟩ = some (.bool big) := by rw [cell_of_row _ _ _ _ _ _ HU.out.lb]; rfl
  have d3 : ((((w.alloc (.cells #[.string s] 9)).alloc (.cells #[.int .i64 wd] 3)).alloc (.cells #[.bool big, .bool uns] 52)).alloc (.cells zeroC 24)).cell? ⟨w.heap.size + 1 + 1, 1, none⟩ = some (.bool uns) := by rw [cell_of_row _ _ _ _ _ _ HU.out.lb]; rfl
  have km := mayBe_spec rate (c : Int) wd
  rw [hh] at km
  have KO : Hid (∀ wx, Hid (Ub w s wd big uns wx) → Calls Try.prog 35 #[.int .i64 wd, .agg #[.bool big, .bool uns]] wx fun e w' => e = .returned (.agg (cellC wd big uns)) ∧ Hid (Ub w s wd big uns w')) := fun wx hx =>
    (cellOf_spec wd big uns w1 w2 wx).mono fun e w' h => ⟨h.1, hx.out.next h.2⟩
  have ko := KO.out _ HU
  have hmul : (c : Int) * (nby wd : Int) = ((nby wd * c : Nat) : Int) := by rw [Nat.mul_comm]; simp
  have hp1 : 1 ≤ nby wd * c := Nat.mul_le_mul n1 (by omega : 1 ≤ c)
  have hp2 : nby wd * c ≤ 4 * 8 := Nat.mul_le_mul n2 (by omega : c ≤ 8)
  generalize nby wd * c = M at *
  have hb : ((s.size : Int) % (M : Int) == 0) = false := by
    rw [beq_eq_false_iff_ne]
    omega
  have hb3 : ((s.size : Int) % (M : Int) != 0) = true := by
    rw [bne_iff_ne]
    omega
  have hb2 : s.size % M = 0 ↔ False := by simp [hm]
  clear hh
  go_enter Try.func50, Try.ntmps50
  go_wp2_with fail
  refine (km _).mono ?_
  rintro e w2 ⟨rfl, rfl⟩
  clear km
  go_wp2_with fail
  refine ko.mono ?_
  rintro e w5 ⟨rfl, h5⟩
  clear ko d1 d2 d3 KO HU
  have HU6 : Hid (Uc w w5.heap.size wd big uns s (w5.alloc (.cells (cellC wd big uns) 78))) := by
    have h6 := h5.out.next ((Below.refl _ _).alloc (Nat.le_refl _) (.cells (cellC wd big uns) 78))
    exact ⟨h6.sb, h6.wb, h6.res, heap_alloc_new _ _, lt_of_block h5.out.res, h6.below⟩
  have f0 := HU6.out.s0
  have f1 := HU6.out.c1
  have f2 := HU6.out.wc
  have r0 : (w5.alloc (.cells (cellC wd big uns) 78)).heap[w.heap.size + 1 + 1 + 1]? = some (.cells zeroC 24 (0, 0)) := HU6.out.res
  have q0 : (w5.alloc (.cells (cellC wd big uns) 78)).cell? ⟨w.heap.size + 1 + 1 + 1, 0, none⟩ = some (.int .i64 0) := by rw [cell_of_row _ _ _ _ _ _ r0]; rfl
  have q1 : (w5.alloc (.cells (cellC wd big uns) 78)).cell? ⟨w.heap.size + 1 + 1 + 1, 1, none⟩ = some (.int .i64 0) := by rw [cell_of_row _ _ _ _ _ _ r0]; rfl
  have q2 : (w5.alloc (.cells (cellC wd big uns) 78)).cell? ⟨w.heap.size + 1 + 1 + 1, 2, none⟩ = some (.int .i64 0) := by rw [cell_of_row _ _ _ _ _ _ r0]; rfl
  have q3 : (w5.alloc (.cells (cellC wd big uns) 78)).cell? ⟨w.heap.size + 1 + 1 + 1, 3, none⟩ = some (.slice none 0 0) := by rw [cell_of_row _ _ _ _ _ _ r0]; rfl
  have z0 : (w5.alloc (.cells (cellC wd big uns) 78)).frozen? ⟨w.heap.size + 1 + 1 + 1, 0, none⟩ = false := by simp [World.frozen?, r0]
  have z1 : (w5.alloc (.cells (cellC wd big uns) 78)).frozen? ⟨w.heap.size + 1 + 1 + 1, 1, none⟩ = false := by simp [World.frozen?, r0]
  have z2 : (w5.alloc (.cells (cellC wd big uns) 78)).frozen? ⟨w.heap.size + 1 + 1 + 1, 2, none⟩ = false := by simp [World.frozen?, r0]
  have z3 : (w5.alloc (.cells (cellC wd big uns) 78)).frozen? ⟨w.heap.size + 1 + 1 + 1, 3, none⟩ = false := by simp [World.frozen?, r0]
  have HR0 : Hid ((w5.alloc (.cells (cellC wd big uns) 78)).heap[w.heap.size + 1 + 1 + 1]? = some (.cells zeroC 24 (0, 0))) := r0
  clear r0
  go_wp2_with fail
  generalize hwf : ((((w5.alloc (.cells (cellC wd big uns) 78)).setCell ⟨w.heap.size + 1 + 1 + 1, 0, none⟩ (.int .i64 0)).setCell ⟨w.heap.size + 1 + 1 + 1, 1, none⟩ (.int .i64 0)).setCell ⟨w.heap.size + 1 + 1 + 1, 2, none⟩ (.int .i64 0)).setCell ⟨w.heap.size + 1 + 1 + 1, 3, none⟩ (.slice none 0 0) = wf
  have hrow : wf.heap[w.heap.size + 1 + 1 + 1]? = some (.cells zeroC 24 (0, 0)) := by
    rw [← hwf, blk_set _ _ _ _ _ _ (blk_set _ _ _ _ _ _ (blk_set _ _ _ _ _ _ (blk_set _ _ _ _ _ _ HR0.out)))]
    rfl
  have hbel : Below w.heap.size w wf := by
    rw [← hwf]
    exact (((HU6.out.below.setCell (by simp; omega) _).setCell (by simp; omega) _).setCell (by simp; omega) _).setCell (by simp; omega) _
  refine bodyPost_ret (v := .tuple #[.agg zeroC, .int .i64 2]) ?_ rfl ⟨none, 0, by rw [HP.out, HN.out]; rfl, by rw [HP.out]; exact rows0 _ _, by rw [HP.out]; exact fresh0 _ _ _, hbel⟩
  rw [res_two rfl]
  have hld := run_loadVar_row (P := Try.prog) wf (w.heap.size + 1 + 1 + 1) 24 24 zeroC (0, 0) _ hrow Try.underlying24 rfl infPcm
  simp [asAddr, Result.andThen, hld]

set_option maxRecDepth 20000 in
set_option maxHeartbeats 6400000 in
theorem unpack_five (s : ByteArray) (rate ch wd : Int) (big uns : Bool) (w : World) (hs : s.size ≤ 1000000000000000000) (hh : mayB rate ch wd = true) (hm : s.size % (nby wd * ch.toNat) = 0) (h5q : 1048576 < s.size / (nby wd * ch.toNat)) :
    Calls Try.prog 50 #[.string s, .int .i64 rate, .int .i64 ch, .int .i64 wd, .agg #[.bool big, .bool uns]] w fun e w' => GivesU w (uP s rate ch wd big uns) (uE s rate ch wd big uns) e w' := by
  have HN : Hid (uE s rate ch wd big uns = 5) := by
    show _ = _
    unfold uE
    rw [hh, if_pos rfl, if_pos hm, if_pos h5q]
  have HP : Hid (uP s rate ch wd big uns = ⟨0, 0, 0, []⟩) := by
    show _ = _
    unfold uP
    rw [HN.out]
    rfl
  obtain ⟨r1, r2, c1, c2, w1, w2⟩ : 1 ≤ rate ∧ rate ≤ 655350 ∧ 1 ≤ ch ∧ ch ≤ 8 ∧ 4 ≤ wd ∧ wd ≤ 32 := of_decide_eq_true hh
  have n1 := (nby_range wd w1 w2).1
  have n2 := (nby_range wd w1 w2).2.1
  obtain ⟨c, rfl⟩ : ∃ c : Nat, ch = (c : Int) := ⟨ch.toNat, by omega⟩
  rw [Int.toNat_natCast] at *
  have HU : Hid (Ub w s wd big uns ((((w.alloc (.cells #[.string s] 9)).alloc (.cells #[.int .i64 wd] 3)).alloc (.cells #[.bool big, .bool uns] 52)).alloc (.cells zeroC 24))) := Ub.new w s wd big uns
  have d1 : ((((w.alloc (.cells #[.string s] 9)).alloc (.cells #[.int .i64 wd] 3)).alloc (.cells #[.bool big, .bool uns] 52)).alloc (.cells zeroC 24)).cell? ⟨w.heap.size + 1, 0, none⟩ = some (.int .i64 wd) := by rw [cell_of_row _ _ _ _ _ _ HU.out.wb]; rfl
  have d2 : ((((w.alloc (.cells #[.string s] 9)).alloc (.cells #[.int .i64 wd] 3)).alloc (.cells #[.bool big, .bool uns] 52)).alloc (.cells zeroC 24)).cell? ⟨w.heap.size + 1 + 1, 0, none⟩ = some (.bool big) := by rw [cell_of_row _ _ _ _ _ _ HU.out.lb]; rfl
  have d3 : ((((w.alloc (.cells #[.string s] 9)).alloc (.cells #[.int .i64 wd] 3)).alloc (.cells #[.bool big, .bool uns] 52)).alloc (.cells zeroC 24)).cell? ⟨w.heap.size + 1 + 1, 1, none⟩ = some (.bool uns) := by rw [cell_of_row _ _ _ _ _ _ HU.out.lb]; rfl
  have km := mayBe_spec rate (c : Int) wd
  rw [hh] at km
  have KO : Hid (∀ wx, Hid (Ub w s wd big uns wx) → Calls Try.prog 35 #[.int .i64 wd, .agg #[.bool big, .bool uns]] wx fun e w' => e = .returned (.agg (cellC wd big uns)) ∧ Hid (Ub w s wd big uns w')) := fun wx hx =>
    (cellOf_spec wd big uns w1 w2 wx).mono fun e w' h => ⟨h.1, hx.out.next h.2⟩
  have ko := KO.out _ HU
  have hmul : (c : Int) * (nby wd : Int) = ((nby wd * c : Nat) : Int) := by rw [Nat.mul_comm]; simp
  have hp1 : 1 ≤ nby wd * c := Nat.mul_le_mul n1 (by omega : 1 ≤ c)
  have hp2 : nby wd * c ≤ 4 * 8 := Nat.mul_le_mul n2 (by omega : c ≤ 8)
  generalize nby wd * c = M at *
  have hb : ((s.size : Int) % (M : Int) == 0) = true := by
    rw [beq_iff_eq]
    omega
  have hb3 : ((s.size : Int) % (M : Int) != 0) = false := by
    rw [bne_eq_false_iff_eq]
    omega
  have hb2 : s.size % M = 0 ↔ True := by simp [hm]
  have hqd : (s.size : Int) / (M : Int) = ((s.size / M : Nat) : Int) := by simp
  have hqb : s.size / M ≤ s.size := Nat.div_le_self _ _
  generalize s.size / M = Q at *
  clear hh
  go_enter Try.func50, Try.ntmps50
  go_wp2_with fail
  refine (km _).mono ?_
  rintro e w2 ⟨rfl, rfl⟩
  clear km
  go_wp2_with fail
  refine ko.mono ?_
  rintro e w5 ⟨rfl, h5⟩
  clear ko d1 d2 d3 KO HU
  have HU6 : Hid (Uc w w5.heap.size wd big uns s (w5.alloc (.cells (cellC wd big uns) 78))) := by
    have h6 := h5.out.next ((Below.refl _ _).alloc (Nat.le_refl _) (.cells (cellC wd big uns) 78))
    exact ⟨h6.sb, h6.wb, h6.res, heap_alloc_new _ _, lt_of_block h5.out.res, h6.below⟩
  have f0 := HU6.out.s0
  have f1 := HU6.out.c1
  have f2 := HU6.out.wc
  have r0 : (w5.alloc (.cells (cellC wd big uns) 78)).heap[w.heap.size + 1 + 1 + 1]? = some (.cells zeroC 24 (0, 0)) := HU6.out.res
  have q0 : (w5.alloc (.cells (cellC wd big uns) 78)).cell? ⟨w.heap.size + 1 + 1 + 1, 0, none⟩ = some (.int .i64 0) := by rw [cell_of_row _ _ _ _ _ _ r0]; rfl
  have q1 : (w5.alloc (.cells (cellC wd big uns) 78)).cell? ⟨w.heap.size + 1 + 1 + 1, 1, none⟩ = some (.int .i64 0) := by rw [cell_of_row _ _ _ _ _ _ r0]; rfl
  have q2 : (w5.alloc (.cells (cellC wd big uns) 78)).cell? ⟨w.heap.size + 1 + 1 + 1, 2, none⟩ = some (.int .i64 0) := by rw [cell_of_row _ _ _ _ _ _ r0]; rfl
  have q3 : (w5.alloc (.cells (cellC wd big uns) 78)).cell? ⟨w.heap.size + 1 + 1 + 1, 3, none⟩ = some (.slice none 0 0) := by rw [cell_of_row _ _ _ _ _ _ r0]; rfl
  have z0 : (w5.alloc (.cells (cellC wd big uns) 78)).frozen? ⟨w.heap.size + 1 + 1 + 1, 0, none⟩ = false := by simp [World.frozen?, r0]
  have z1 : (w5.alloc (.cells (cellC wd big uns) 78)).frozen? ⟨w.heap.size + 1 + 1 + 1, 1, none⟩ = false := by simp [World.frozen?, r0]
  have z2 : (w5.alloc (.cells (cellC wd big uns) 78)).frozen? ⟨w.heap.size + 1 + 1 + 1, 2, none⟩ = false := by simp [World.frozen?, r0]
  have z3 : (w5.alloc (.cells (cellC wd big uns) 78)).frozen? ⟨w.heap.size + 1 + 1 + 1, 3, none⟩ = false := by simp [World.frozen?, r0]
  have HR0 : Hid ((w5.alloc (.cells (cellC wd big uns) 78)).heap[w.heap.size + 1 + 1 + 1]? = some (.cells zeroC 24 (0, 0))) := r0
  clear r0
  go_wp2_with fail
  generalize hwf : ((((w5.alloc (.cells (cellC wd big uns) 78)).setCell ⟨w.heap.size + 1 + 1 + 1, 0, none⟩ (.int .i64 0)).setCell ⟨w.heap.size + 1 + 1 + 1, 1, none⟩ (.int .i64 0)).setCell ⟨w.heap.size + 1 + 1 + 1, 2, none⟩ (.int .i64 0)).setCell ⟨w.heap.size + 1 + 1 + 1, 3, none⟩ (.slice none 0 0) = wf
  have hrow : wf.heap[w.heap.size + 1 + 1 + 1]? = some (.cells zeroC 24 (0, 0)) := by
    rw [← hwf, blk_set _ _ _ _ _ _ (blk_set _ _ _ _ _ _ (blk_set _ _ _ _ _ _ (blk_set _ _ _ _ _ _ HR0.out)))]
    rfl
  have hbel : Below w.heap.size w wf := by
    rw [← hwf]
    exact (((HU6.out.below.setCell (by simp; omega) _).setCell (by simp; omega) _).setCell (by simp; omega) _).setCell (by simp; omega) _
  refine bodyPost_ret (v := .tuple #[.agg zeroC, .int .i64 5]) ?_ rfl ⟨none, 0, by rw [HP.out, HN.out]; rfl, by rw [HP.out]; exact rows0 _ _, by rw [HP.out]; exact fresh0 _ _ _, hbel⟩
  rw [res_two rfl]
  have hld := run_loadVar_row (P := Try.prog) wf (w.heap.size + 1 + 1 + 1) 24 24 zeroC (0, 0) _ hrow Try.underlying24 rfl infPcm
  simp [asAddr, Result.andThen, hld]

end Go.Proofs.Ytaepgjheknkojaa
