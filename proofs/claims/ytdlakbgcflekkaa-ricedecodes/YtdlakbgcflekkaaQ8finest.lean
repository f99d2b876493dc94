/- Own text: the walk of the program's finest. -/
import Derived.Test.YtdlakbgcflekkaaQ8prices
namespace Go.Proofs.Ytdlakbgcflekkaa
open Go.RowKit
set_option linter.unusedSimpArgs false
set_option linter.unusedVariables false

structure FS (w wx : World) : Prop where
  bx : wx.heap[w.heap.size]? = some (.cells #[.int .i64 0, .int .i64 0, .int .i64 0] 66 (0, 0))
  below : Below w.heap.size w wx
theorem FS.low {w wx w' : World} (h : FS w wx) (hb : Below wx.heap.size wx w') : FS w w' := ⟨by rw [hb.block _ (lt_of_block h.bx)]; exact h.bx, h.below.trans (hb.mono h.below.size)⟩
theorem set3_a {wx : World} (n : Nat) (v0 v1 v2 : Value) {a0 a1 a2 : Value} {t : TypeId} (h : wx.heap[n]? = some (.cells #[a0, a1, a2] t (0, 0))) : (((wx.setCell ⟨n, 0, none⟩ v0).setCell ⟨n, 1, none⟩ v1).setCell ⟨n, 2, none⟩ v2).heap[n]? = some (.cells #[v0, v1, v2] t (0, 0)) := by
  rw [block_setCell _ _ _ _ _ _ (block_setCell _ _ _ _ _ _ (block_setCell _ _ _ _ _ _ h))]
  rfl
theorem set3_b {wx : World} (n : Nat) (v0 v1 v2 : Value) {B : Nat} {a : World} (h : Below B a wx) (hn : B ≤ n) : Below B a (((wx.setCell ⟨n, 0, none⟩ v0).setCell ⟨n, 1, none⟩ v1).setCell ⟨n, 2, none⟩ v2) := ((h.setCell hn _).setCell hn _).setCell hn _
theorem Cut.down {b o r : Nat} (h : Cut b (o + 1) r) : Cut b o r := by
  have hd := h.dv
  have hle := h.le
  have e : 2 ^ (o + 1) = 2 * 2 ^ o := by rw [Nat.pow_succ]; omega
  rw [e] at hd hle
  have hp : 0 < 2 ^ o := Nat.pow_pos (by decide)
  have hb : b = 2 ^ o * (2 * (b / (2 * 2 ^ o))) := by
    rw [← Nat.mul_assoc, Nat.mul_comm (2 ^ o) 2]; exact hd.symm
  have hq : b / 2 ^ o = 2 * (b / (2 * 2 ^ o)) := by
    conv => lhs; rw [hb]
    exact Nat.mul_div_cancel_left _ hp
  refine ⟨by have := h.o15; omega, h.b1, h.b2, h.r2, ?_, by rw [hq]; omega⟩
  rw [hq]; exact hb.symm
theorem Cut.half {b o r : Nat} (h : Cut b (o + 1) r) : b / 2 ^ o = 2 * (b / 2 ^ (o + 1)) := by
  have hd := h.dv
  have e : 2 ^ (o + 1) = 2 * 2 ^ o := by rw [Nat.pow_succ]; omega
  have hp : 0 < 2 ^ o := Nat.pow_pos (by decide)
  rw [e] at hd ⊢
  have hb : b = 2 ^ o * (2 * (b / (2 * 2 ^ o))) := by
    rw [← Nat.mul_assoc, Nat.mul_comm (2 ^ o) 2]; exact hd.symm
  conv => lhs; rw [hb]
  exact Nat.mul_div_cancel_left _ hp
theorem Cut.to {b o r : Nat} (h : Cut b o r) (p : Nat) (hp : p ≤ o) : Cut b p r := by
  induction o with
  | zero => rw [show p = 0 by omega]; exact h
  | succ o ih =>
    by_cases e : p = o + 1
    · rw [e]; exact h
    · exact ih h.down (by omega)
set_option maxRecDepth 20000 in
set_option maxHeartbeats 3200000 in
theorem finest_no (b r : Int) (hall : ∀ o' : Nat, o' ≤ 4 → ¬ cutOk b r o') (w : World) :
    Calls Try.prog 50 #[.int .i64 b, .int .i64 r] w fun en w' => en = .returned (.tuple #[cutV 0 0 0, .int .i64 0]) ∧ Below w.heap.size w w' := by
  have HALL : Hid (∀ o' : Nat, o' ≤ 4 → ¬ cutOk b r o') := hall
  clear hall
  go_enter Try.func50, Try.ntmps50
  go_wp2_with fail
  generalize hwa : w.alloc _ = wa at *
  have HA : Hid (FS w wa) := by rw [← hwa]; exact ⟨heap_alloc_new _ _, (Below.refl _ _).alloc (Nat.le_refl _) _⟩
  clear hwa
  go_loopw [6, 7, 8] (fun s6 s7 s8 wr => ∃ q : Nat, q ≤ 5 ∧ s6 = .int .i64 (4 - (q : Int)) ∧ (∀ o' : Nat, 4 - (q : Int) < (o' : Int) → (o' : Int) ≤ 4 → ¬ cutOk b r o') ∧ FS w wr) (fun s6 _ _ _ => (intOf s6 + 1).toNat)
  case atStart => exact ⟨0, by omega, rfl, fun o' h1 h2 => by omega, HA.out⟩
  case round =>
    clear HA
    obtain ⟨q, hq, rfl, hno, hfs⟩ := hrel
    have HN : Hid (∀ o' : Nat, 4 - (q : Int) < (o' : Int) → (o' : Int) ≤ 4 → ¬ cutOk b r o') := hno
    have HF : Hid (FS w wr) := hfs
    clear hno hfs

    by_cases hlt : q < 5
    · have hc : ¬ cutOk b r (4 - (q : Int)) := by
        have := HALL.out (4 - q) (by omega)
        rwa [show ((4 - q : Nat) : Int) = 4 - (q : Int) by omega] at this
      have HC : Hid (¬ cutOk b r (4 - (q : Int))) := hc
      have kc := cutOf_no b (4 - (q : Int)) r hc wr
      clear hc
      go_wp2_with fail
      refine kc.mono ?_
      rintro e w2 ⟨p, s, f, rfl, hb2⟩
      have HF3 : Hid (FS w (w2.alloc (.cells #[.int .i64 p, .int .i64 s, .int .i64 f] 66))) := (HF.out.low hb2).low ((Below.refl _ _).alloc (Nat.le_refl _) _)
      clear hb2 kc
      go_wp2_with fail
      go_roundw
      case rel =>
        refine ⟨q + 1, by omega, ?_, fun o' h1 h2 => ?_, HF3.out⟩
        · rw [show (4 : Int) - ((q + 1 : Nat) : Int) = 4 - (q : Int) - 1 by omega]
        · by_cases e : (o' : Int) = 4 - (q : Int)
          · rw [e]; exact HC.out
          · exact HN.out o' (by omega) h2
      case measure => simp [intOf]; omega
    · have hq5 : q = 5 := by omega
      subst hq5
      have hb := HF.out.bx
      have u0 : wr.cell? ⟨w.heap.size, 0, none⟩ = some (.int .i64 0) := by rw [cell_of_row _ _ _ _ _ _ hb]; rfl
      have u1 : wr.cell? ⟨w.heap.size, 1, none⟩ = some (.int .i64 0) := by rw [cell_of_row _ _ _ _ _ _ hb]; rfl
      have u2 : wr.cell? ⟨w.heap.size, 2, none⟩ = some (.int .i64 0) := by rw [cell_of_row _ _ _ _ _ _ hb]; rfl
      have f0 : wr.frozen? ⟨w.heap.size, 0, none⟩ = false := by simp [World.frozen?, hb]
      have f1 : wr.frozen? ⟨w.heap.size, 1, none⟩ = false := by simp [World.frozen?, hb]
      have f2 : wr.frozen? ⟨w.heap.size, 2, none⟩ = false := by simp [World.frozen?, hb]
      clear hb
      go_wp2_with fail
      generalize hwf : World.setCell _ _ _ = wf
      have hrow : wf.heap[w.heap.size]? = some (.cells #[.int .i64 0, .int .i64 0, .int .i64 0] 66 (0, 0)) := by rw [← hwf]; exact set3_a _ _ _ _ HF.out.bx
      have hbel : Below w.heap.size w wf := by rw [← hwf]; exact set3_b _ _ _ _ HF.out.below (Nat.le_refl _)
      refine bodyPost_ret (v := .tuple #[.agg #[.int .i64 0, .int .i64 0, .int .i64 0], .int .i64 0]) ?_ rfl ⟨rfl, hbel⟩
      rw [results_two rfl]
      have hld := run_loadVar_row (P := Try.prog) (wf) (w.heap.size) 66 66 #[.int .i64 0, .int .i64 0, .int .i64 0] (0, 0) _ hrow Try.underlying66 rfl info_cut
      simp [asAddr, Result.andThen, hld]
set_option maxRecDepth 20000 in
set_option maxHeartbeats 3200000 in
theorem finest_yes (b o r : Nat) (hC : Cut b o r) (ho4 : o ≤ 4) (hall : ∀ o' : Nat, o < o' → o' ≤ 4 → ¬ cutOk b r o') (w : World) :
    Calls Try.prog 50 #[.int .i64 (b : Int), .int .i64 (r : Int)] w fun en w' => en = .returned (.tuple #[cutV ((2 ^ o : Nat) : Int) ((b / 2 ^ o : Nat) : Int) (r : Int), .int .i64 (o : Int)]) ∧ Below w.heap.size w w' := by
  have HALL : Hid (∀ o' : Nat, o < o' → o' ≤ 4 → ¬ cutOk b r o') := hall
  have KY : Hid (∀ wx, Calls Try.prog 31 #[.int .i64 (b : Int), .int .i64 (r : Int), .int .i64 (o : Int)] wx fun e w' => e = .returned (.tuple #[cutV ((2 ^ o : Nat) : Int) ((b / 2 ^ o : Nat) : Int) (r : Int), .bool true]) ∧ Below wx.heap.size wx w') := fun wx => cutOf_yes b o r hC wx
  have HOK : Hid (cutOk b r o) := hC.ok
  clear hall hC
  generalize ((2 ^ o : Nat) : Int) = N at *
  generalize ((b / 2 ^ o : Nat) : Int) = d at *
  go_enter Try.func50, Try.ntmps50
  go_wp2_with fail
  generalize hwa : w.alloc _ = wa at *
  have HA : Hid (FS w wa) := by rw [← hwa]; exact ⟨heap_alloc_new _ _, (Below.refl _ _).alloc (Nat.le_refl _) _⟩
  clear hwa
  go_loopw [6, 7, 8] (fun s6 s7 s8 wr => ∃ q : Nat, q ≤ 5 ∧ s6 = .int .i64 (4 - (q : Int)) ∧ (∀ o' : Nat, 4 - (q : Int) < (o' : Int) → (o' : Int) ≤ 4 → ¬ cutOk (b : Int) (r : Int) o') ∧ FS w wr) (fun s6 _ _ _ => (intOf s6 + 1).toNat)
  case atStart => exact ⟨0, by omega, rfl, fun o' h1 h2 => by omega, HA.out⟩
  case round =>
    clear HA
    obtain ⟨q, hq, rfl, hno, hfs⟩ := hrel
    have HN : Hid (∀ o' : Nat, 4 - (q : Int) < (o' : Int) → (o' : Int) ≤ 4 → ¬ cutOk (b : Int) (r : Int) o') := hno
    have HF : Hid (FS w wr) := hfs
    clear hno hfs

    have hqo : (q : Int) ≤ 4 - (o : Int) := by
      apply Classical.byContradiction
      intro hh
      exact HN.out o (by omega) (by omega) HOK.out
    by_cases hlt : (q : Int) = 4 - (o : Int)
    · have hqe : (4 : Int) - (q : Int) = (o : Int) := by omega
      rw [hqe] at *
      go_wp2_with fail
      refine (KY.out wr).mono ?_
      rintro e w2 ⟨rfl, hb2⟩
      have HF3 : Hid (FS w (w2.alloc (.cells #[.int .i64 N, .int .i64 d, .int .i64 (r : Int)] 66))) := (HF.out.low hb2).low ((Below.refl _ _).alloc (Nat.le_refl _) _)
      have hne : ¬ w2.heap.size = w.heap.size := by have := lt_of_block (HF.out.low hb2).bx; omega
      have hne2 : ¬ w.heap.size = w2.heap.size := fun e => hne e.symm
      have hb := HF3.out.bx
      have u0 : (w2.alloc (.cells #[.int .i64 N, .int .i64 d, .int .i64 (r : Int)] 66)).cell? ⟨w.heap.size, 0, none⟩ = some (.int .i64 0) := by rw [cell_of_row _ _ _ _ _ _ hb]; rfl
      have u1 : (w2.alloc (.cells #[.int .i64 N, .int .i64 d, .int .i64 (r : Int)] 66)).cell? ⟨w.heap.size, 1, none⟩ = some (.int .i64 0) := by rw [cell_of_row _ _ _ _ _ _ hb]; rfl
      have u2 : (w2.alloc (.cells #[.int .i64 N, .int .i64 d, .int .i64 (r : Int)] 66)).cell? ⟨w.heap.size, 2, none⟩ = some (.int .i64 0) := by rw [cell_of_row _ _ _ _ _ _ hb]; rfl
      have f0 : (w2.alloc (.cells #[.int .i64 N, .int .i64 d, .int .i64 (r : Int)] 66)).frozen? ⟨w.heap.size, 0, none⟩ = false := by simp [World.frozen?, hb]
      have f1 : (w2.alloc (.cells #[.int .i64 N, .int .i64 d, .int .i64 (r : Int)] 66)).frozen? ⟨w.heap.size, 1, none⟩ = false := by simp [World.frozen?, hb]
      have f2 : (w2.alloc (.cells #[.int .i64 N, .int .i64 d, .int .i64 (r : Int)] 66)).frozen? ⟨w.heap.size, 2, none⟩ = false := by simp [World.frozen?, hb]
      clear hb2 hb
      go_wp2_with fail
      generalize hwf : World.setCell _ _ _ = wf
      have hrow : wf.heap[w.heap.size]? = some (.cells #[.int .i64 N, .int .i64 d, .int .i64 (r : Int)] 66 (0, 0)) := by rw [← hwf]; exact set3_a _ _ _ _ HF3.out.bx
      have hbel : Below w.heap.size w wf := by rw [← hwf]; exact set3_b _ _ _ _ HF3.out.below (Nat.le_refl _)
      refine bodyPost_ret (v := .tuple #[.agg #[.int .i64 N, .int .i64 d, .int .i64 (r : Int)], .int .i64 (o : Int)]) ?_ rfl ⟨rfl, hbel⟩
      rw [results_two rfl]
      have hld := run_loadVar_row (P := Try.prog) (wf) (w.heap.size) 66 66 #[.int .i64 N, .int .i64 d, .int .i64 (r : Int)] (0, 0) _ hrow Try.underlying66 rfl info_cut
      simp [asAddr, Result.andThen, hld]
    · have hc : ¬ cutOk (b : Int) (r : Int) (4 - (q : Int)) := by
        have := HALL.out (4 - q) (by omega) (by omega)
        rwa [show ((4 - q : Nat) : Int) = 4 - (q : Int) by omega] at this
      have HC : Hid (¬ cutOk (b : Int) (r : Int) (4 - (q : Int))) := hc
      have kc := cutOf_no b (4 - (q : Int)) r hc wr
      clear hc
      go_wp2_with fail
      refine kc.mono ?_
      rintro e w2 ⟨p, s, f, rfl, hb2⟩
      have HF3 : Hid (FS w (w2.alloc (.cells #[.int .i64 p, .int .i64 s, .int .i64 f] 66))) := (HF.out.low hb2).low ((Below.refl _ _).alloc (Nat.le_refl _) _)
      clear hb2 kc
      go_wp2_with fail
      go_roundw
      case rel =>
        refine ⟨q + 1, by omega, ?_, fun o' h1 h2 => ?_, HF3.out⟩
        · rw [show (4 : Int) - ((q + 1 : Nat) : Int) = 4 - (q : Int) - 1 by omega]
        · by_cases e : (o' : Int) = 4 - (q : Int)
          · rw [e]; exact HC.out
          · exact HN.out o' (by omega) h2
      case measure => simp [intOf]; omega

end Go.Proofs.Ytdlakbgcflekkaa
