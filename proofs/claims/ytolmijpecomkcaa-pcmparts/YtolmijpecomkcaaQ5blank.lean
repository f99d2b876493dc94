/- Own text: the walk of the program's blank. -/
import Derived.Test.YtolmijpecomkcaaQ5head
namespace Go.Proofs.Ytolmijpecomkcaa
open Go.RowKit
set_option linter.unusedSimpArgs false
set_option linter.unusedVariables false

/-- A list of lists that a call made: its own blocks, one behind the other. -/
structure Mat (B c n : Nat) (f : Nat → Nat → Int) (w : World) : Prop where
  outer : w.rowIs B 45 c (fun k => .slice (some ⟨B + 1 + k, 0, none⟩) n n)
  inner : ∀ k, k < c → w.rowIs (B + 1 + k) 3 n (fun i => .int .i64 (f k i))
theorem infInts : (Try.prog.info? 45).map (fun i => (i.zero, i.size, i.bytes)) = some (some (.slice none 0 0), 1, 24) := by kernel_rfl
theorem infInt : (Try.prog.info? 3).map (fun i => (i.zero, i.size, i.bytes)) = some (some (.int .i64 0), 1, 8) := by kernel_rfl
theorem made_rows (n : Nat) (h : n ≤ 1048576) (w : World) :
    (Instr.makeSlice 22 (.int .i64 (n : Int)) (.int .i64 (n : Int))).run Try.prog w = .ok (.slice (some ⟨w.heap.size, 0, none⟩) n n) (w.alloc (.cells (madeCells #[.slice none 0 0] n) 45)) :=
  run_make_row' 22 45 (.slice none 0 0) 24 Try.underlying22 infInts rfl .i64 .i64 n (by omega) (by omega) w
theorem made_ints (n : Nat) (h : n ≤ 1048576) (w : World) :
    (Instr.makeSlice 45 (.int .i64 (n : Int)) (.int .i64 (n : Int))).run Try.prog w = .ok (.slice (some ⟨w.heap.size, 0, none⟩) n n) (w.alloc (.cells (madeCells #[.int .i64 0] n) 3)) :=
  run_make_row' 45 3 (.int .i64 0) 8 Try.underlying45 infInt rfl .i64 .i64 n (by omega) (by omega) w

structure Bk (w0 : World) (c n i : Nat) (w : World) : Prop where
  outer : w.rowIs w0.heap.size 45 c (fun k => if k < i then .slice (some ⟨w0.heap.size + 1 + k, 0, none⟩) n n else .slice none 0 0)
  inner : ∀ k, k < i → w.rowIs (w0.heap.size + 1 + k) 3 n (fun _ => .int .i64 0)
  size : w.heap.size = w0.heap.size + 1 + i
  below : Below w0.heap.size w0 w

set_option maxRecDepth 20000 in
set_option maxHeartbeats 1600000 in
theorem blank_spec (c n : Nat) (hc : c ≤ 8) (hn : n ≤ 1048576) (w : World) :
    Calls Try.prog 33 #[.int .i64 (c : Int), .int .i64 (n : Int)] w fun e w' => e = .returned (.slice (some ⟨w.heap.size, 0, none⟩) c c) ∧ Mat w.heap.size c n (fun _ _ => 0) w' ∧ w'.heap.size = w.heap.size + 1 + c ∧ Below w.heap.size w w' := by
  have hm1 := made_rows c (by omega) w
  have HB : Hid (Bk w c n 0 (w.alloc (.cells (madeCells #[.slice none 0 0] c) 45))) := by
    refine ⟨?_, fun k hk => absurd hk (Nat.not_lt_zero _), by simp, (Below.refl _ _).alloc (Nat.le_refl _) _⟩
    exact (World.rowIs_made w (.slice none 0 0) c 45).congr fun i hi => by rw [if_neg (Nat.not_lt_zero _)]
  have HM : Hid (∀ wx : World, (Instr.makeSlice 45 (.int .i64 (n : Int)) (.int .i64 (n : Int))).run Try.prog wx = .ok (.slice (some ⟨wx.heap.size, 0, none⟩) n n) (wx.alloc (.cells (madeCells #[.int .i64 0] n) 3))) := made_ints n hn
  go_enter Try.func33, Try.ntmps33
  go_wp2_with fail
  generalize hwa : w.alloc _ = wa
  have HA : Hid (Bk w c n 0 wa) := by
    rw [← hwa]
    exact HB.out
  clear hwa HB hm1
  go_loopw [6, 11] (fun s6 s11 wr => ∃ i : Nat, i ≤ c ∧ s11 = .int .i64 (i : Int) ∧ Bk w c n i wr) (fun _ t _ => c - (intOf t).toNat)
  case atStart => exact ⟨0, Nat.zero_le _, rfl, HA.out⟩
  case round =>
    clear HA
    obtain ⟨i, hi, rfl, hb⟩ := hrel
    have HB : Hid (Bk w c n i wr) := hb
    clear hb
    by_cases hlt : i < c
    · have hmk := HM.out wr
      have hsz := HB.out.size
      have ho : (wr.alloc (.cells (madeCells #[.int .i64 0] n) 3)).rowIs w.heap.size 45 c (fun k => if k < i then .slice (some ⟨w.heap.size + 1 + k, 0, none⟩) n n else .slice none 0 0) := HB.out.outer.alloc _
      have g1 := ho.cell hlt
      have g2 := ho.frozen i
      rw [if_neg (Nat.lt_irrefl _)] at g1
      have HN : Hid (Bk w c n (i + 1) ((wr.alloc (.cells (madeCells #[.int .i64 0] n) 3)).setCell ⟨w.heap.size, i, none⟩ (.slice (some ⟨wr.heap.size, 0, none⟩) n n))) := by
        refine ⟨?_, fun k hk => ?_, by rw [World.size_setCell]; simp; omega, ?_⟩
        · refine (ho.set i _).congr fun k hk => ?_
          by_cases e : k = i
          · rw [if_pos e, if_pos (by omega), hsz, e]
          · rw [if_neg e]
            by_cases h : k < i
            · rw [if_pos h, if_pos (by omega)]
            · rw [if_neg h, if_neg (by omega)]
        · refine World.rowIs.setOther ?_ (show w.heap.size + 1 + k ≠ w.heap.size by omega) _
          by_cases e : k = i
          · rw [e, ← hsz]
            exact World.rowIs_made wr (.int .i64 0) n 3
          · exact (HB.out.inner k (by omega)).alloc _
        · exact (HB.out.below.alloc (by omega) _).setCell (Nat.le_refl _) _
      clear ho
      go_wp2_with fail
      generalize hwn : World.setCell _ _ _ = wn
      have HN2 : Hid (Bk w c n (i + 1) wn) := by
        rw [← hwn]
        have h := HN.out
        rw [hsz] at h
        exact h
      clear hwn HN g1 g2 hmk
      go_roundw
      case rel => exact ⟨i + 1, by omega, by go_num, HN2.out⟩
      case measure => simp [intOf]; omega
    · have hic : i = c := by omega
      subst hic
      go_wp2_with fail
      go_ret
      exact ⟨rfl, ⟨HB.out.outer.congr fun k hk => by rw [if_pos hk], HB.out.inner⟩, HB.out.size, HB.out.below⟩

end Go.Proofs.Ytolmijpecomkcaa
