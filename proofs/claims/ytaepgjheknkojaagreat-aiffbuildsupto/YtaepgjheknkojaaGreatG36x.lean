/- Own text: the walk of the program's Unpack. the walk of pcm (aiff). -/
import Derived.Test.YtaepgjheknkojaaGreatG35x
import Derived.Test.YtaepgjheknkojaaGreatQ7small
import Derived.Test.YtaepgjheknkojaaGreatG26x
import Derived.Test.YtaepgjheknkojaaGreatG6x
import Derived.Deep.RegionHeld3
namespace Go.Proofs.YtaepgjheknkojaaGreat
open Go.RowKit
set_option linter.unusedSimpArgs false
set_option linter.unusedVariables false

theorem Fresh.mono2 {B B' : Nat} {w : World} {ao : Option Addr} {xs : List (List Int)} (h : Fresh B w ao xs) (hB : B' ≤ B) : Fresh B' w ao xs :=
  ⟨fun b off e h0 => Nat.le_trans hB (h.own b off e h0), fun b off e i hi a n c hc ba oa ha => ⟨Nat.le_trans hB (h.rows b off e i hi a n c hc ba oa ha).1, (h.rows b off e i hi a n c hc ba oa ha).2⟩⟩
theorem uE_zero (s : ByteArray) (rate : Int) (c : Nat) (wd : Int) (big uns : Bool) (hh : mayB rate (c : Int) wd = true) (n : Nat) (hsz : n * c * nby wd = s.size) (hn : n ≤ 1048576) (h1 : 1 ≤ nby wd) (hc1 : 1 ≤ c) (hok : ∀ j, j < n * c → sampB (numM s wd big uns j) wd = true) : uE s rate (c : Int) wd big uns = 0 ∧ uP s rate (c : Int) wd big uns = ⟨rate, (c : Int), wd, uL s wd big uns c n⟩ := by
  have hM : s.size = n * (nby wd * c) := by rw [← hsz, Nat.mul_assoc, Nat.mul_comm c]
  have hp : 0 < nby wd * c := Nat.mul_pos h1 hc1
  have e1 : s.size % (nby wd * c) = 0 := by rw [hM]; exact Nat.mul_mod_left _ _
  have e2 : s.size / (nby wd * c) = n := by rw [hM]; exact Nat.mul_div_cancel _ hp
  have e3 : s.size / nby wd = n * c := by rw [← hsz]; exact Nat.mul_div_cancel _ h1
  have hE : uE s rate (c : Int) wd big uns = 0 := by
    unfold uE
    rw [hh, if_pos rfl, Int.toNat_natCast, if_pos e1, e2, if_neg (by omega), e3, if_pos hok]
  refine ⟨hE, ?_⟩
  unfold uP
  rw [if_pos hE, Int.toNat_natCast, e2]
theorem uE_two (s : ByteArray) (rate : Int) (c : Nat) (wd : Int) (big uns : Bool) (hh : mayB rate (c : Int) wd = true) (n : Nat) (hsz : n * c * nby wd = s.size) (hn : n ≤ 1048576) (h1 : 1 ≤ nby wd) (hc1 : 1 ≤ c) (j : Nat) (hj : j < n * c) (hok : sampB (numM s wd big uns j) wd = false) : uE s rate (c : Int) wd big uns = 2 ∧ uP s rate (c : Int) wd big uns = ⟨0, 0, 0, []⟩ := by
  have hM : s.size = n * (nby wd * c) := by rw [← hsz, Nat.mul_assoc, Nat.mul_comm c]
  have hp : 0 < nby wd * c := Nat.mul_pos h1 hc1
  have e1 : s.size % (nby wd * c) = 0 := by rw [hM]; exact Nat.mul_mod_left _ _
  have e2 : s.size / (nby wd * c) = n := by rw [hM]; exact Nat.mul_div_cancel _ hp
  have e3 : s.size / nby wd = n * c := by rw [← hsz]; exact Nat.mul_div_cancel _ h1
  have hE : uE s rate (c : Int) wd big uns = 2 := by
    unfold uE
    rw [hh, if_pos rfl, Int.toNat_natCast, if_pos e1, e2, if_neg (by omega), e3, if_neg (fun h => by rw [h j hj] at hok; exact absurd hok (by decide))]
  refine ⟨hE, ?_⟩
  unfold uP
  rw [if_neg (by rw [hE]; decide)]

set_option maxRecDepth 20000 in
set_option maxHeartbeats 6400000 in
theorem unpack_main (s : ByteArray) (rate ch wd : Int) (big uns : Bool) (w : World) (hs : s.size ≤ 1000000000000000000) (hh : mayB rate ch wd = true) (hm : s.size % (nby wd * ch.toNat) = 0) (h5q : ¬ 1048576 < s.size / (nby wd * ch.toNat)) :
    Calls Tryz.prog 78 #[.string s, .int .i64 rate, .int .i64 ch, .int .i64 wd, .agg #[.bool big, .bool uns]] w fun e w' => GivesU w (uP s rate ch wd big uns) (uE s rate ch wd big uns) e w' := by
  obtain ⟨r1, r2, c1, c2, w1, w2⟩ : 1 ≤ rate ∧ rate ≤ 655350 ∧ 1 ≤ ch ∧ ch ≤ 8 ∧ 4 ≤ wd ∧ wd ≤ 32 := of_decide_eq_true hh
  have n1 := (nby_range wd w1 w2).1
  have n2 := (nby_range wd w1 w2).2.1
  obtain ⟨c, rfl⟩ : ∃ c : Nat, ch = (c : Int) := ⟨ch.toNat, by omega⟩
  rw [Int.toNat_natCast] at *
  have HU : Hid (Ub w s wd big uns ((((w.alloc (.cells #[.string s] 9)).alloc (.cells #[.int .i64 wd] 3)).alloc (.cells #[.bool big, .bool uns] 59)).alloc (.cells zeroC 24))) := Ub.new w s wd big uns
  have d1 : ((((w.alloc (.cells #[.string s] 9)).alloc (.cells #[.int .i64 wd] 3)).alloc (.cells #[.bool big, .bool uns] 59)).alloc (.cells zeroC 24)).cell? ⟨w.heap.size + 1, 0, none⟩ = some (.int .i64 wd) := by rw [cell_of_row _ _ _ _ _ _ HU.out.wb]; rfl
  have d2 : ((((w.alloc (.cells #[.string s] 9)).alloc (.cells #[.int .i64 wd] 3)).alloc (.cells #[.bool big, .bool uns] 59)).alloc (.cells zeroC 24)).cell? ⟨w.heap.size + 1 + 1, 0, none⟩ = some (.bool big) := by rw [cell_of_row _ _ _ _ _ _ HU.out.lb]; rfl
  have d3 : ((((w.alloc (.cells #[.string s] 9)).alloc (.cells #[.int .i64 wd] 3)).alloc (.cells #[.bool big, .bool uns] 59)).alloc (.cells zeroC 24)).cell? ⟨w.heap.size + 1 + 1, 1, none⟩ = some (.bool uns) := by rw [cell_of_row _ _ _ _ _ _ HU.out.lb]; rfl
  have km := mayBe_spec rate (c : Int) wd
  rw [hh] at km
  have KO : Hid (∀ wx, Hid (Ub w s wd big uns wx) → Calls Tryz.prog 57 #[.int .i64 wd, .agg #[.bool big, .bool uns]] wx fun e w' => e = .returned (.agg (cellC wd big uns)) ∧ Hid (Ub w s wd big uns w')) := fun wx hx =>
    (cellOf_spec wd big uns w1 w2 wx).mono fun e w' h => ⟨h.1, hx.out.next h.2⟩
  have ko := KO.out _ HU
  have hmul : (c : Int) * (nby wd : Int) = ((nby wd * c : Nat) : Int) := by rw [Nat.mul_comm]; simp
  have hp1 : 1 ≤ nby wd * c := Nat.mul_le_mul n1 (by omega : 1 ≤ c)
  have hp2 : nby wd * c ≤ 4 * 8 := Nat.mul_le_mul n2 (by omega : c ≤ 8)
  have HSZ : Hid (s.size / (nby wd * c) * c * nby wd = s.size) := by
    have h : s.size / (nby wd * c) * (nby wd * c) = s.size := Nat.div_mul_cancel (Nat.dvd_of_mod_eq_zero hm)
    show _ = _
    rw [Nat.mul_assoc, Nat.mul_comm c]
    exact h
  generalize nby wd * c = M at *
  have hb : ((s.size : Int) % (M : Int) == 0) = true := by
    rw [beq_iff_eq]
    omega
  have hb3 : ((s.size : Int) % (M : Int) != 0) = false := by
    rw [bne_eq_false_iff_eq]
    omega
  have hb2 : s.size % M = 0 ↔ True := by simp [hm]
  have hqd : (s.size : Int) / (M : Int) = ((s.size / M : Nat) : Int) := by simp
  have hqb : s.size / M ≤ s.size := Nat.div_le_self _ _
  generalize s.size / M = n at *
  have HHD : Hid (mayB rate (c : Int) wd = true) := hh
  clear hh
  go_enter Tryz.func78, Tryz.ntmps78
  go_wp2_with fail
  refine (km _).mono ?_
  rintro e w2 ⟨rfl, rfl⟩
  clear km
  go_wp2_with fail
  refine ko.mono ?_
  rintro e w5 ⟨rfl, h5⟩
  clear ko d1 d2 d3 KO HU
  have HU6 : Hid (Uc w w5.heap.size wd big uns s (w5.alloc (.cells (cellC wd big uns) 104))) := by
    have h6 := h5.out.next ((Below.refl _ _).alloc (Nat.le_refl _) (.cells (cellC wd big uns) 104))
    exact ⟨h6.sb, h6.wb, h6.res, heap_alloc_new _ _, lt_of_block h5.out.res, h6.below⟩
  have f0 := HU6.out.s0
  have f1 := HU6.out.c1
  have f2 := HU6.out.wc
  have kb := blank_spec c n (by omega) (by omega) (w5.alloc (.cells (cellC wd big uns) 104))
  rw [show (w5.alloc (.cells (cellC wd big uns) 104)).heap.size = w5.heap.size + 1 from by simp] at kb
  go_wp2_with fail
  refine kb.mono ?_
  rintro e w7 ⟨rfl, hM7, _, hB7⟩
  have HM7 : Hid (Mat (w5.heap.size + 1) c n (fun _ _ => 0) w7) := hM7
  have HU7 : Hid (Uc w w5.heap.size wd big uns s w7) := HU6.out.next (by rw [show (w5.alloc (.cells (cellC wd big uns) 104)).heap.size = w5.heap.size + 1 from by simp]; exact hB7)
  clear kb hM7 hB7 HU6 f0 f1 f2
  have KT : Calls Tryz.prog 60 #[.slice (some ⟨w5.heap.size + 1, 0, none⟩) c c, .func (.func 103) #[] #[.pointer (some ⟨w5.heap.size, 0, none⟩), .pointer (some ⟨w.heap.size, 0, none⟩), .pointer (some ⟨w.heap.size + 1, 0, none⟩)]] w7 fun e w' => (e = .returned (.bool true) ∧ Hid (Mat (w5.heap.size + 1) c n (fun k i => numM s wd big uns (i * c + k)) w') ∧ Hid (∃ r, Uc w w5.heap.size wd big uns r w') ∧ Hid (∀ j, j < n * c → sampB (numM s wd big uns j) wd = true)) ∨ (e = .returned (.bool false) ∧ Hid (∃ j, j < n * c ∧ sampB (numM s wd big uns j) wd = false) ∧ Hid (∃ r, Uc w w5.heap.size wd big uns r w')) := by
    refine (inTurn_spec (w5.heap.size + 1) 0 n c c _ _ 103 _ _ _ (enters_of Tryz.func103 (by kernel_rfl) rfl) (unpackTurn w w5.heap.size (w5.heap.size + 1) (Nat.lt_succ_self _) s wd big uns w1 w2 c n HSZ.out) (by omega) (by omega) (by omega) w7 ⟨Nat.zero_le _, ⟨HM7.out.outer, fun k hk => (HM7.out.inner k hk).congr fun i hi => by unfold soM; rw [if_neg (Nat.not_lt_zero _)]⟩, by rw [Nat.zero_mul, ByteArray.extract_zero_size]; exact HU7.out, fun j hj => absurd hj (Nat.not_lt_zero _)⟩).mono ?_
    rintro e w' (⟨rfl, _, g1, g2, g3⟩ | ⟨rfl, g1, g2⟩)
    · refine Or.inl ⟨rfl, ⟨g1.outer, fun k hk => (g1.inner k hk).congr fun i hi => ?_⟩, ⟨_, g2⟩, g3⟩
      unfold soM
      rw [if_pos]
      have : i * c + k < (i + 1) * c := by rw [Nat.succ_mul]; omega
      exact Nat.lt_of_lt_of_le this (Nat.mul_le_mul_right _ hi)
    · exact Or.inr ⟨rfl, g1, g2⟩
  clear HM7 HU7
  go_wp2_with fail
  refine KT.mono ?_
  clear KT
  rintro e w8 (⟨rfl, hM8, ⟨rr, hU8⟩, hok⟩ | ⟨rfl, ⟨j, hj, hbad⟩, ⟨rr, hU8⟩⟩)
  · obtain ⟨hE, hP⟩ := uE_zero s rate c wd big uns HHD.out n HSZ.out (by omega) n1 (by omega) hok.out
    have HE : Hid (uE s rate (c : Int) wd big uns = 0) := hE
    have HP : Hid (uP s rate (c : Int) wd big uns = ⟨rate, (c : Int), wd, uL s wd big uns c n⟩) := hP
    have HU : Hid (Uc w w5.heap.size wd big uns rr w8) := hU8
    have hlt := hU8.lt
    have f2 := hU8.wc
    have r0 : w8.heap[w.heap.size + 1 + 1 + 1]? = some (.cells zeroC 24 (0, 0)) := hU8.res
    have HR0 : Hid (w8.heap[w.heap.size + 1 + 1 + 1]? = some (.cells zeroC 24 (0, 0))) := r0
    have q0 : w8.cell? ⟨w.heap.size + 1 + 1 + 1, 0, none⟩ = some (.int .i64 0) := by rw [cell_of_row _ _ _ _ _ _ r0]; rfl
    have z0 : w8.frozen? ⟨w.heap.size + 1 + 1 + 1, 0, none⟩ = false := by simp [World.frozen?, r0]
    have q1 : w8.cell? ⟨w.heap.size + 1 + 1 + 1, 1, none⟩ = some (.int .i64 0) := by rw [cell_of_row _ _ _ _ _ _ r0]; rfl
    have z1 : w8.frozen? ⟨w.heap.size + 1 + 1 + 1, 1, none⟩ = false := by simp [World.frozen?, r0]
    have q2 : w8.cell? ⟨w.heap.size + 1 + 1 + 1, 2, none⟩ = some (.int .i64 0) := by rw [cell_of_row _ _ _ _ _ _ r0]; rfl
    have z2 : w8.frozen? ⟨w.heap.size + 1 + 1 + 1, 2, none⟩ = false := by simp [World.frozen?, r0]
    have q3 : w8.cell? ⟨w.heap.size + 1 + 1 + 1, 3, none⟩ = some (.slice none 0 0) := by rw [cell_of_row _ _ _ _ _ _ r0]; rfl
    have z3 : w8.frozen? ⟨w.heap.size + 1 + 1 + 1, 3, none⟩ = false := by simp [World.frozen?, r0]
    clear r0 hE hP hU8
    go_wp2_with fail
    generalize hwf : (((w8.setCell ⟨w.heap.size + 1 + 1 + 1, 0, none⟩ (.int .i64 rate)).setCell ⟨w.heap.size + 1 + 1 + 1, 1, none⟩ (.int .i64 (c : Int))).setCell ⟨w.heap.size + 1 + 1 + 1, 2, none⟩ (.int .i64 wd)).setCell ⟨w.heap.size + 1 + 1 + 1, 3, none⟩ (.slice (some ⟨w5.heap.size + 1, 0, none⟩) c c) = wf
    have hrow : wf.heap[w.heap.size + 1 + 1 + 1]? = some (.cells #[.int .i64 rate, .int .i64 (c : Int), .int .i64 wd, .slice (some ⟨w5.heap.size + 1, 0, none⟩) c c] 24 (0, 0)) := by
      rw [← hwf, blk_set _ _ _ _ _ _ (blk_set _ _ _ _ _ _ (blk_set _ _ _ _ _ _ (blk_set _ _ _ _ _ _ HR0.out)))]
      rfl
    have hbel : Below w.heap.size w wf := by
      rw [← hwf]
      exact (((HU.out.below.setCell (by simp <;> omega) _).setCell (by simp <;> omega) _).setCell (by simp <;> omega) _).setCell (by simp <;> omega) _
    have hmat : Mat (w5.heap.size + 1) c n (fun k i => numM s wd big uns (i * c + k)) wf := by
      rw [← hwf]
      refine ⟨?_, fun k hk => ?_⟩
      · exact (((hM8.out.outer.setOther (by simp; omega) _).setOther (by simp; omega) _).setOther (by simp; omega) _).setOther (by simp; omega) _
      · exact ((((hM8.out.inner k hk).setOther (by simp; omega) _).setOther (by simp; omega) _).setOther (by simp; omega) _).setOther (by simp; omega) _
    obtain ⟨hrows, hfr⟩ := mat_rows hmat (by omega) (by omega) (fun k i hk hi => numM_range s wd big uns _ w1 w2)
    have hlen : (uL s wd big uns c n).length = c := matL_length _ _ _
    refine bodyPost_ret (v := .tuple #[.agg #[.int .i64 rate, .int .i64 (c : Int), .int .i64 wd, .slice (some ⟨w5.heap.size + 1, 0, none⟩) c c], .int .i64 0]) ?_ rfl ⟨some ⟨w5.heap.size + 1, 0, none⟩, c, by rw [HP.out, HE.out]; show _ = Ending.returned (.tuple #[.agg #[.int .i64 rate, .int .i64 (c : Int), .int .i64 wd, .slice (some ⟨w5.heap.size + 1, 0, none⟩) (uL s wd big uns c n).length c], .int .i64 0]); rw [hlen], by rw [HP.out]; exact hrows, by rw [HP.out]; exact hfr.mono2 (by omega), hbel⟩
    rw [res_two rfl]
    have hld := run_loadVar_row (P := Tryz.prog) wf (w.heap.size + 1 + 1 + 1) 24 24 #[.int .i64 rate, .int .i64 (c : Int), .int .i64 wd, .slice (some ⟨w5.heap.size + 1, 0, none⟩) c c] (0, 0) _ hrow Tryz.underlying24 rfl infPcm
    simp [asAddr, Result.andThen, hld]
  · obtain ⟨hE, hP⟩ := uE_two s rate c wd big uns HHD.out n HSZ.out (by omega) n1 (by omega) j hj hbad
    have HE : Hid (uE s rate (c : Int) wd big uns = 2) := hE
    have HP : Hid (uP s rate (c : Int) wd big uns = ⟨0, 0, 0, []⟩) := hP
    have HU : Hid (Uc w w5.heap.size wd big uns rr w8) := hU8
    have r0 : w8.heap[w.heap.size + 1 + 1 + 1]? = some (.cells zeroC 24 (0, 0)) := hU8.res
    have HR0 : Hid (w8.heap[w.heap.size + 1 + 1 + 1]? = some (.cells zeroC 24 (0, 0))) := r0
    have q0 : w8.cell? ⟨w.heap.size + 1 + 1 + 1, 0, none⟩ = some (.int .i64 0) := by rw [cell_of_row _ _ _ _ _ _ r0]; rfl
    have z0 : w8.frozen? ⟨w.heap.size + 1 + 1 + 1, 0, none⟩ = false := by simp [World.frozen?, r0]
    have q1 : w8.cell? ⟨w.heap.size + 1 + 1 + 1, 1, none⟩ = some (.int .i64 0) := by rw [cell_of_row _ _ _ _ _ _ r0]; rfl
    have z1 : w8.frozen? ⟨w.heap.size + 1 + 1 + 1, 1, none⟩ = false := by simp [World.frozen?, r0]
    have q2 : w8.cell? ⟨w.heap.size + 1 + 1 + 1, 2, none⟩ = some (.int .i64 0) := by rw [cell_of_row _ _ _ _ _ _ r0]; rfl
    have z2 : w8.frozen? ⟨w.heap.size + 1 + 1 + 1, 2, none⟩ = false := by simp [World.frozen?, r0]
    have q3 : w8.cell? ⟨w.heap.size + 1 + 1 + 1, 3, none⟩ = some (.slice none 0 0) := by rw [cell_of_row _ _ _ _ _ _ r0]; rfl
    have z3 : w8.frozen? ⟨w.heap.size + 1 + 1 + 1, 3, none⟩ = false := by simp [World.frozen?, r0]
    clear r0 hE hP hU8 hbad
    go_wp2_with fail
    generalize hwf : (((w8.setCell ⟨w.heap.size + 1 + 1 + 1, 0, none⟩ (.int .i64 0)).setCell ⟨w.heap.size + 1 + 1 + 1, 1, none⟩ (.int .i64 0)).setCell ⟨w.heap.size + 1 + 1 + 1, 2, none⟩ (.int .i64 0)).setCell ⟨w.heap.size + 1 + 1 + 1, 3, none⟩ (.slice none 0 0) = wf
    have hrow : wf.heap[w.heap.size + 1 + 1 + 1]? = some (.cells zeroC 24 (0, 0)) := by
      rw [← hwf, blk_set _ _ _ _ _ _ (blk_set _ _ _ _ _ _ (blk_set _ _ _ _ _ _ (blk_set _ _ _ _ _ _ HR0.out)))]
      rfl
    have hbel : Below w.heap.size w wf := by
      rw [← hwf]
      exact (((HU.out.below.setCell (by simp <;> omega) _).setCell (by simp <;> omega) _).setCell (by simp <;> omega) _).setCell (by simp <;> omega) _
    refine bodyPost_ret (v := .tuple #[.agg zeroC, .int .i64 2]) ?_ rfl ⟨none, 0, by rw [HP.out, HE.out]; rfl, by rw [HP.out]; exact rows0 _ _, by rw [HP.out]; exact fresh0 _ _ _, hbel⟩
    rw [res_two rfl]
    have hld := run_loadVar_row (P := Tryz.prog) wf (w.heap.size + 1 + 1 + 1) 24 24 zeroC (0, 0) _ hrow Tryz.underlying24 rfl infPcm
    simp [asAddr, Result.andThen, hld]

theorem unpack_spec (s : ByteArray) (rate ch wd : Int) (big uns : Bool) (w : World) (hs : s.size ≤ 1000000000000000000) :
    Calls Tryz.prog 78 #[.string s, .int .i64 rate, .int .i64 ch, .int .i64 wd, .agg #[.bool big, .bool uns]] w fun e w' => GivesU w (uP s rate ch wd big uns) (uE s rate ch wd big uns) e w' := by
  cases hh : mayB rate ch wd with
  | false => exact unpack_head s rate ch wd big uns w hh
  | true =>
    by_cases hm : s.size % (nby wd * ch.toNat) = 0
    · by_cases h5 : 1048576 < s.size / (nby wd * ch.toNat)
      · exact unpack_five s rate ch wd big uns w hs hh hm h5
      · exact unpack_main s rate ch wd big uns w hs hh hm h5
    · exact unpack_two s rate ch wd big uns w hs hh hm

end Go.Proofs.YtaepgjheknkojaaGreat

namespace Go.Proofs.YtaepgjheknkojaaGreat
open Go.RowKit
set_option linter.unusedSimpArgs false
set_option linter.unusedVariables false

abbrev zeroP7 : Array Value := #[.int .i64 0, .int .i64 0, .int .i64 0, .slice none 0 0]
theorem infoP7 : (Tryz.prog.info? 24).map (·.size) = some 4 := by kernel_rfl
theorem pcm_ret7 {wf : World} {b : Nat} {d : Array Value} (h : Box b d 24 wf) (hd : d.size = 4) (a' : Act) (n : Value) (h2 : a'.tmps.getD 4 undef = .pointer (some ⟨b, 0, none⟩)) (h3 : a'.tmps.getD 5 undef = n) :
    (results Tryz.f45 a'.tmps).run Tryz.prog wf = .ok (.tuple #[.agg d, n]) wf := by
  rw [res_two_cell rfl]
  have hld := run_loadVar_row (P := Tryz.prog) wf b 24 24 d (0, 0) _ h Tryz.underlying24 rfl (by rw [hd]; exact infoP7)
  simp [h2, h3, asAddr, Result.andThen, hld]
/-- pcm's boxes: the sound's, the answer's. -/
structure Jp7 (w0 : World) (x : Com) (w : World) : Prop where
  arg : Box w0.heap.size (sndC7 x) 68 w
  res : Box (w0.heap.size + 1) zeroP7 24 w
  below : Below w0.heap.size w0 w
theorem Jp7.new (w : World) (x : Com) : Jp7 w x ((w.alloc (.cells (sndC7 x) 68)).alloc (.cells zeroP7 24)) := ⟨(Box.new w _ _).next (belA _ _), Box.new2 w _ _ _, bel2 _ _ _⟩
theorem Jp7.next {w0 w w1 : World} {x : Com} (h : Jp7 w0 x w) (hB : Below w.heap.size w w1) : Jp7 w0 x w1 := ⟨h.arg.next hB, h.res.next hB, below_on h.below hB⟩
set_option maxRecDepth 20000 in
set_option maxHeartbeats 6400000 in
theorem pcm7_spec (x : Com) (d : ByteArray) (w : World) (hd : d.size ≤ 140737488351232) :
    Calls Tryz.prog 45 #[sndV7 x, .string d] w fun e w' => GivesU w (uP d x.rate x.ch x.wd (!x.lit) false) (uE d x.rate x.ch x.wd (!x.lit) false) e w' := by
  have HJ0 : Hid (Jp7 w x ((w.alloc (.cells (sndC7 x) 68)).alloc (.cells zeroP7 24))) := Jp7.new w x
  have KL : Hid (∀ wx, Hid (Jp7 w x wx) → Calls Tryz.prog 31 #[sndV7 x] wx fun e w' => e = .returned (.agg #[.bool (!x.lit), .bool false]) ∧ Hid (Jp7 w x w')) := fun wx hx =>
    (layout7_spec x wx).mono fun e w' q => ⟨q.1, hx.out.next q.2⟩
  have KU : Hid (∀ wx, Hid (Jp7 w x wx) → Calls Tryz.prog 78 #[.string d, .int .i64 x.rate, .int .i64 x.ch, .int .i64 x.wd, .agg #[.bool (!x.lit), .bool false]] wx fun e w' => ∃ ao cap, e = .returned (.tuple #[pcmV (uP d x.rate x.ch x.wd (!x.lit) false) ao cap, .int .i64 (uE d x.rate x.ch x.wd (!x.lit) false)]) ∧ Hid (Jp7 w x w') ∧ Hid (RowsAt w' ao (uP d x.rate x.ch x.wd (!x.lit) false).pl ∧ Fresh (w.heap.size + 2) w' ao (uP d x.rate x.ch x.wd (!x.lit) false).pl)) := fun wx hx =>
    (unpack_spec d x.rate x.ch x.wd (!x.lit) false wx (by omega)).mono fun e w' q => by
      obtain ⟨ao, cap, e1, h1, h2, h3⟩ := q
      exact ⟨ao, cap, e1, hx.out.next h3, h1, h2.mono hx.out.res.lt⟩
  have HSS : Hid (∀ wx, Box w.heap.size (sndC7 x) 68 wx → wx.cell? ⟨w.heap.size, 0, none⟩ = some (.int .i64 x.rate) ∧ wx.cell? ⟨w.heap.size, 1, none⟩ = some (.int .i64 x.ch) ∧ wx.cell? ⟨w.heap.size, 2, none⟩ = some (.int .i64 x.wd) ∧ wx.cell? ⟨w.heap.size, 3, none⟩ = some (.int .i64 x.smp) ∧ wx.cell? ⟨w.heap.size, 4, none⟩ = some (.bool x.lit)) := fun wx hx => ⟨hx.c 0 _ rfl, hx.c 1 _ rfl, hx.c 2 _ rfl, hx.c 3 _ rfl, hx.c 4 _ rfl⟩
  generalize uP d x.rate x.ch x.wd (!x.lit) false = q at *
  generalize uE d x.rate x.ch x.wd (!x.lit) false = n at *
  clear hd
  go_enter Tryz.func45, Tryz.ntmps45
  go_wp2_with fail
  generalize hwa : World.alloc (World.alloc w _) _ = wa
  have HA : Hid (Jp7 w x wa) := by
    rw [← hwa]
    exact HJ0.out
  have HD : Hid (Jp7 w x wa.drew) := HA.out.next (belD _)
  clear hwa HJ0 HA
  refine wp_region_held_drew (S := fun wx => Box w.heap.size (sndC7 x) 68 wx) (by kernel_rfl) HD.out.arg (fun hS => ?_)
  refine wpAnyH_take (i := 0) (v := .string d) rfl (by kernel_rfl) (by kernel_rfl) (by kernel_rfl) (fun _ _ _ h => h) (Or.inl ⟨by rfl, fun w hSw => by obtain ⟨s1, s2, s3, s4, s5⟩ := HSS.out _ hSw; go_simp⟩) hS ?_
  simp only [Act.put, List.getElem_toArray, List.getElem_cons_succ, List.getElem_cons_zero, List.setIfInBounds_toArray, List.set_cons_zero, List.set_cons_succ]
  refine wpAnyH_take (i := 1) (v := .pointer (some ⟨w.heap.size, 0, none⟩)) rfl (by kernel_rfl) (by kernel_rfl) (by kernel_rfl) (fun _ _ _ h => h) (Or.inl ⟨by rfl, fun w hSw => by obtain ⟨s1, s2, s3, s4, s5⟩ := HSS.out _ hSw; go_simp⟩) hS ?_
  simp only [Act.put, List.getElem_toArray, List.getElem_cons_succ, List.getElem_cons_zero, List.setIfInBounds_toArray, List.set_cons_zero, List.set_cons_succ]
  refine wpAnyH_take (i := 2) (v := .int .i64 x.rate) rfl (by kernel_rfl) (by kernel_rfl) (by kernel_rfl) (fun _ _ _ h => h) (Or.inl ⟨by rfl, fun w hSw => by obtain ⟨s1, s2, s3, s4, s5⟩ := HSS.out _ hSw; go_simp⟩) hS ?_
  simp only [Act.put, List.getElem_toArray, List.getElem_cons_succ, List.getElem_cons_zero, List.setIfInBounds_toArray, List.set_cons_zero, List.set_cons_succ]
  refine wpAnyH_take (i := 3) (v := .pointer (some ⟨w.heap.size, 1, none⟩)) rfl (by kernel_rfl) (by kernel_rfl) (by kernel_rfl) (fun _ _ _ h => h) (Or.inl ⟨by rfl, fun w hSw => by obtain ⟨s1, s2, s3, s4, s5⟩ := HSS.out _ hSw; go_simp⟩) hS ?_
  simp only [Act.put, List.getElem_toArray, List.getElem_cons_succ, List.getElem_cons_zero, List.setIfInBounds_toArray, List.set_cons_zero, List.set_cons_succ]
  refine wpAnyH_take (i := 4) (v := .int .i64 x.ch) rfl (by kernel_rfl) (by kernel_rfl) (by kernel_rfl) (fun _ _ _ h => h) (Or.inl ⟨by rfl, fun w hSw => by obtain ⟨s1, s2, s3, s4, s5⟩ := HSS.out _ hSw; go_simp⟩) hS ?_
  simp only [Act.put, List.getElem_toArray, List.getElem_cons_succ, List.getElem_cons_zero, List.setIfInBounds_toArray, List.set_cons_zero, List.set_cons_succ]
  refine wpAnyH_take (i := 5) (v := .pointer (some ⟨w.heap.size, 2, none⟩)) rfl (by kernel_rfl) (by kernel_rfl) (by kernel_rfl) (fun _ _ _ h => h) (Or.inl ⟨by rfl, fun w hSw => by obtain ⟨s1, s2, s3, s4, s5⟩ := HSS.out _ hSw; go_simp⟩) hS ?_
  simp only [Act.put, List.getElem_toArray, List.getElem_cons_succ, List.getElem_cons_zero, List.setIfInBounds_toArray, List.set_cons_zero, List.set_cons_succ]
  refine wpAnyH_take (i := 6) (v := .int .i64 x.wd) rfl (by kernel_rfl) (by kernel_rfl) (by kernel_rfl) (fun _ _ _ h => h) (Or.inl ⟨by rfl, fun w hSw => by obtain ⟨s1, s2, s3, s4, s5⟩ := HSS.out _ hSw; go_simp⟩) hS ?_
  simp only [Act.put, List.getElem_toArray, List.getElem_cons_succ, List.getElem_cons_zero, List.setIfInBounds_toArray, List.set_cons_zero, List.set_cons_succ]
  refine wpAnyH_take (i := 7) (v := .agg #[.int .i64 x.rate, .int .i64 x.ch, .int .i64 x.wd, .int .i64 x.smp, .bool x.lit]) rfl (by kernel_rfl) (by kernel_rfl) (by kernel_rfl) (fun _ _ _ h => h) (Or.inl ⟨by rfl, fun w hSw => by obtain ⟨s1, s2, s3, s4, s5⟩ := HSS.out _ hSw; go_simp⟩) hS ?_
  simp only [Act.put, List.getElem_toArray, List.getElem_cons_succ, List.getElem_cons_zero, List.setIfInBounds_toArray, List.set_cons_zero, List.set_cons_succ]
  refine wpAnyH_ready (rs := [8]) (by kernel_rfl) (by simp) ?_
  refine AllReadyH.cons rfl (fun K hK => ?_) AllReadyH.nil
  go_simp
  refine (KL.out _ HD).mono ?_
  rintro e w4 ⟨rfl, h4⟩
  refine hK.out _ _ h4.out.arg (fun hS4 => ?_)
  clear hK K KL
  refine wpAnyH_ready (rs := [9]) (by kernel_rfl) (by simp) ?_
  refine AllReadyH.cons rfl (fun K hK => ?_) AllReadyH.nil
  go_simp
  refine (KU.out _ h4).mono ?_
  rintro e w5 ⟨ao, cap, rfl, h5, hr5⟩
  refine hK.out _ _ h5.out.arg (fun hS5 => ?_)
  clear hK K KU
  refine wpAnyH_take (i := 10) (v := pcmV q ao cap) rfl (by kernel_rfl) (by kernel_rfl) (by kernel_rfl) (fun _ _ _ h => h) (Or.inl ⟨by rfl, fun w hSw => by obtain ⟨s1, s2, s3, s4, s5⟩ := HSS.out _ hSw; go_simp⟩) hS5 ?_
  simp only [Act.put, List.getElem_toArray, List.getElem_cons_succ, List.getElem_cons_zero, List.setIfInBounds_toArray, List.set_cons_zero, List.set_cons_succ]
  refine wpAnyH_take (i := 11) (v := .int .i64 n) rfl (by kernel_rfl) (by kernel_rfl) (by kernel_rfl) (fun _ _ _ h => h) (Or.inl ⟨by rfl, fun w hSw => by obtain ⟨s1, s2, s3, s4, s5⟩ := HSS.out _ hSw; go_simp⟩) hS5 ?_
  simp only [Act.put, List.getElem_toArray, List.getElem_cons_succ, List.getElem_cons_zero, List.setIfInBounds_toArray, List.set_cons_zero, List.set_cons_succ]
  have r0 := h5.out.res.c 0 _ rfl
  have z0 := h5.out.res.z 0
  have r1 := h5.out.res.c 1 _ rfl
  have z1 := h5.out.res.z 1
  have r2 := h5.out.res.c 2 _ rfl
  have z2 := h5.out.res.z 2
  have r3 := h5.out.res.c 3 _ rfl
  have z3 := h5.out.res.z 3
  have HF : Hid (Box (w.heap.size + 1) (pcmC q ao cap) 24 ((((w5.setCell ⟨w.heap.size + 1, 0, none⟩ (.int .i64 q.rate)).setCell ⟨w.heap.size + 1, 1, none⟩ (.int .i64 q.ch)).setCell ⟨w.heap.size + 1, 2, none⟩ (.int .i64 q.wd)).setCell ⟨w.heap.size + 1, 3, none⟩ (.slice ao q.pl.length cap)) ∧ Below w.heap.size w ((((w5.setCell ⟨w.heap.size + 1, 0, none⟩ (.int .i64 q.rate)).setCell ⟨w.heap.size + 1, 1, none⟩ (.int .i64 q.ch)).setCell ⟨w.heap.size + 1, 2, none⟩ (.int .i64 q.wd)).setCell ⟨w.heap.size + 1, 3, none⟩ (.slice ao q.pl.length cap)) ∧ Box w.heap.size (sndC7 x) 68 ((((w5.setCell ⟨w.heap.size + 1, 0, none⟩ (.int .i64 q.rate)).setCell ⟨w.heap.size + 1, 1, none⟩ (.int .i64 q.ch)).setCell ⟨w.heap.size + 1, 2, none⟩ (.int .i64 q.wd)).setCell ⟨w.heap.size + 1, 3, none⟩ (.slice ao q.pl.length cap)) ∧ RowsAt ((((w5.setCell ⟨w.heap.size + 1, 0, none⟩ (.int .i64 q.rate)).setCell ⟨w.heap.size + 1, 1, none⟩ (.int .i64 q.ch)).setCell ⟨w.heap.size + 1, 2, none⟩ (.int .i64 q.wd)).setCell ⟨w.heap.size + 1, 3, none⟩ (.slice ao q.pl.length cap)) ao q.pl ∧ Fresh w.heap.size ((((w5.setCell ⟨w.heap.size + 1, 0, none⟩ (.int .i64 q.rate)).setCell ⟨w.heap.size + 1, 1, none⟩ (.int .i64 q.ch)).setCell ⟨w.heap.size + 1, 2, none⟩ (.int .i64 q.wd)).setCell ⟨w.heap.size + 1, 3, none⟩ (.slice ao q.pl.length cap)) ao q.pl) := by
    refine ⟨(((h5.out.res.set 0 _).set 1 _).set 2 _).set 3 _, (((h5.out.below.setCell (Nat.le_succ _) _).setCell (Nat.le_succ _) _).setCell (Nat.le_succ _) _).setCell (Nat.le_succ _) _, ?_, ?_⟩
    · have nn : w.heap.size ≠ w.heap.size + 1 := by omega
      exact ((((h5.out.arg.other (a := ⟨w.heap.size + 1, 0, none⟩) nn _).other (a := ⟨w.heap.size + 1, 1, none⟩) nn _).other (a := ⟨w.heap.size + 1, 2, none⟩) nn _).other (a := ⟨w.heap.size + 1, 3, none⟩) nn _)
    · obtain ⟨a1, a2⟩ := hr5.out.1.setLow hr5.out.2 (a := ⟨w.heap.size + 1, 0, none⟩) (by show w.heap.size + 1 < _; omega) (.int .i64 q.rate)
      obtain ⟨b1, b2⟩ := a1.setLow a2 (a := ⟨w.heap.size + 1, 1, none⟩) (by show w.heap.size + 1 < _; omega) (.int .i64 q.ch)
      obtain ⟨d1, d2⟩ := b1.setLow b2 (a := ⟨w.heap.size + 1, 2, none⟩) (by show w.heap.size + 1 < _; omega) (.int .i64 q.wd)
      obtain ⟨g1, g2⟩ := d1.setLow d2 (a := ⟨w.heap.size + 1, 3, none⟩) (by show w.heap.size + 1 < _; omega) (.slice ao q.pl.length cap)
      exact ⟨g1, g2.mono (by omega)⟩
  refine wpAnyH_ready (rs := [12]) (by kernel_rfl) (by simp) ?_
  refine AllReadyH.cons rfl (fun K hK => ?_) AllReadyH.nil
  go_simp
  refine hK.out _ _ HF.out.2.2.1 (fun hS6 => ?_)
  clear hK K r0 r1 r2 r3 z0 z1 z2 z3
  refine wpAnyH_take (i := 13) (v := .int .i64 n) rfl (by kernel_rfl) (by kernel_rfl) (by kernel_rfl) (fun _ _ _ h => h) (Or.inl ⟨by rfl, fun w hSw => by obtain ⟨s1, s2, s3, s4, s5⟩ := HSS.out _ hSw; go_simp⟩) hS6 ?_
  simp only [Act.put, List.getElem_toArray, List.getElem_cons_succ, List.getElem_cons_zero, List.setIfInBounds_toArray, List.set_cons_zero, List.set_cons_succ]
  refine wpAnyH_done (by kernel_rfl) ?_ _
  go_wp2_with fail
  exact bodyPost_ret (v := .tuple #[pcmV q ao cap, .int .i64 n]) (pcm_ret7 HF.out.1 rfl _ _ rfl rfl) rfl ⟨ao, cap, rfl, HF.out.2.2.2.1, HF.out.2.2.2.2, HF.out.2.1⟩

end Go.Proofs.YtaepgjheknkojaaGreat
