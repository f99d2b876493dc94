/- Own text: the walks of fault and infoIn. -/
import Derived.Test.YtfmpiidnemhijaaDoorQ13form
import Derived.Test.YtfmpiidnemhijaaDoorQ13clone
namespace Go.Proofs.YtfmpiidnemhijaaDoor
open Go.RowKit
set_option linter.unusedSimpArgs false
set_option linter.unusedVariables false

abbrev stiC (i : Sti) : Array Value := #[.int .i64 i.mn, .int .i64 i.mx, .int .i64 i.mf, .int .i64 i.xf, .int .i64 i.rt, .int .i64 i.ch, .int .i64 i.wd, .int .i64 i.sm, .string i.dg]
abbrev stiV (i : Sti) : Value := .agg (stiC i)
/-- The widths' table. -/
abbrev widA : Array Value := #[.int .i64 16, .int .i64 16, .int .i64 24, .int .i64 24, .int .i64 20, .int .i64 3, .int .i64 5, .int .i64 36]
def WidAt (w : World) : Prop := ∃ t fz, w.heap[0]? = some (.cells widA t fz)
theorem WidAt.lt {w : World} (h : WidAt w) : 0 < w.heap.size := by
  obtain ⟨t, fz, h⟩ := h
  exact lt_of_block h
theorem WidAt.below {w w' : World} (h : WidAt w) (hB : Below w.heap.size w w') : WidAt w' := by
  have hs := h.lt
  obtain ⟨t, fz, h⟩ := h
  exact ⟨t, fz, by rw [hB.block _ hs]; exact h⟩
theorem info_sti : (Tryd.prog.info? 23).map (·.size) = some 9 := by kernel_rfl
theorem info_arr8 : (Tryd.prog.info? 89).map (·.size) = some 8 := by kernel_rfl
theorem res_one13 {fn : Func} {p : Tmp} {ty : TypeId} (h : fn.results = #[.cell p ty]) (tmps : Array Value) (P : Program) (w : World) :
    (results fn tmps).run P w = ((asAddr (tmps.getD p undef)).run P w).andThen fun a w₁ => (loadVar ty a).run P w₁ := by
  simp only [results, h]
  simp [Sem.run_bind, Result.andThen]
theorem sti_cells {w : World} {g : Nat} {i : Sti} (h : w.heap[g]? = some (.cells (stiC i) 23 (0, 0))) : w.cell? ⟨g, 0, none⟩ = some (.int .i64 i.mn) ∧ w.cell? ⟨g, 1, none⟩ = some (.int .i64 i.mx) ∧ w.cell? ⟨g, 2, none⟩ = some (.int .i64 i.mf) ∧ w.cell? ⟨g, 3, none⟩ = some (.int .i64 i.xf) ∧ w.cell? ⟨g, 4, none⟩ = some (.int .i64 i.rt) ∧ w.cell? ⟨g, 5, none⟩ = some (.int .i64 i.ch) ∧ w.cell? ⟨g, 6, none⟩ = some (.int .i64 i.wd) ∧ w.cell? ⟨g, 7, none⟩ = some (.int .i64 i.sm) ∧ w.cell? ⟨g, 8, none⟩ = some (.string i.dg) := by
  refine ⟨?_, ?_, ?_, ?_, ?_, ?_, ?_, ?_, ?_⟩ <;> (rw [cell_of_row _ _ _ _ _ _ h]; rfl)
theorem fz_of {w : World} {g : Nat} {cs : Array Value} {t : TypeId} (h : w.heap[g]? = some (.cells cs t (0, 0))) (j : Nat) : w.frozen? ⟨g, j, none⟩ = false := by simp [World.frozen?, h]
set_option maxRecDepth 20000 in
set_option maxHeartbeats 1600000 in
theorem fault_any (i : Sti) (w : World) : Calls Tryd.prog 21 #[stiV i] w fun e w' => e = .returned (.int .i64 (fltE i)) ∧ Below w.heap.size w w' := by
  obtain ⟨mn, mx, mf, xf, rt, ch, wd, sm, dg⟩ := i
  have HB : Hid (Below w.heap.size w (w.alloc (.cells (stiC ⟨mn, mx, mf, xf, rt, ch, wd, sm, dg⟩) 23))) := (Below.refl _ _).alloc (Nat.le_refl _) _
  have hF : fltE ⟨mn, mx, mf, xf, rt, ch, wd, sm, dg⟩ = if mn < 16 ∨ mx < mn ∨ rt = 0 then 2 else if wd < 4 ∨ 24 < wd ∨ 4608 < mx ∨ 655350 < rt then 3 else if 1048576 < sm then 5 else 0 := rfl
  by_cases h1 : mn < 16 ∨ mx < mn ∨ rt = 0
  · have HF : Hid (fltE ⟨mn, mx, mf, xf, rt, ch, wd, sm, dg⟩ = 2) := hF.trans (if_pos h1)
    clear hF
    have h1 : mn < 16 ∨ (16 ≤ mn ∧ mx < mn) ∨ (16 ≤ mn ∧ mn ≤ mx ∧ (rt == 0) = true) := by
      rcases h1 with h | h | h
      · exact .inl h
      · by_cases q : mn < 16
        · exact .inl q
        · exact .inr (.inl ⟨by omega, h⟩)
      · by_cases q : mn < 16
        · exact .inl q
        · by_cases q2 : mx < mn
          · exact .inr (.inl ⟨by omega, q2⟩)
          · exact .inr (.inr ⟨by omega, by omega, by rw [beq_iff_eq]; exact h⟩)
    rcases h1 with h | ⟨h, h'⟩ | ⟨h, h', h''⟩
    all_goals
      go_enter Tryd.func21, Tryd.ntmps21
      go_wp2_with fail
      go_ret
      exact ⟨by rw [HF.out]; rfl, HB.out⟩
  · rw [if_neg h1] at hF
    have a1 : 16 ≤ mn := by omega
    have a2 : mn ≤ mx := by omega
    have a3 : (rt == 0) = false := by rw [beq_eq_false_iff_ne]; omega
    clear h1
    by_cases h2 : wd < 4 ∨ 24 < wd ∨ 4608 < mx ∨ 655350 < rt
    · have HF : Hid (fltE ⟨mn, mx, mf, xf, rt, ch, wd, sm, dg⟩ = 3) := hF.trans (if_pos h2)
      clear hF
      have h2 : wd < 4 ∨ (4 ≤ wd ∧ 24 < wd) ∨ (4 ≤ wd ∧ wd ≤ 24 ∧ 4608 < mx) ∨ (4 ≤ wd ∧ wd ≤ 24 ∧ mx ≤ 4608 ∧ 655350 < rt) := by omega
      rcases h2 with h | ⟨h, h'⟩ | ⟨h, h', h''⟩ | ⟨h, h', h'', h3⟩
      all_goals
        go_enter Tryd.func21, Tryd.ntmps21
        go_wp2_with fail
        go_ret
        exact ⟨by rw [HF.out]; rfl, HB.out⟩
    · rw [if_neg h2] at hF
      have b1 : 4 ≤ wd := by omega
      have b2 : wd ≤ 24 := by omega
      have b3 : mx ≤ 4608 := by omega
      have b4 : rt ≤ 655350 := by omega
      clear h2
      by_cases h3 : 1048576 < sm
      · have HF : Hid (fltE ⟨mn, mx, mf, xf, rt, ch, wd, sm, dg⟩ = 5) := hF.trans (if_pos h3)
        clear hF
        go_enter Tryd.func21, Tryd.ntmps21
        go_wp2_with fail
        go_ret
        exact ⟨by rw [HF.out]; rfl, HB.out⟩
      · have HF : Hid (fltE ⟨mn, mx, mf, xf, rt, ch, wd, sm, dg⟩ = 0) := hF.trans (if_neg h3)
        clear hF
        go_enter Tryd.func21, Tryd.ntmps21
        go_wp2_with fail
        go_ret
        exact ⟨by rw [HF.out]; rfl, HB.out⟩
/-- infoIn's boxes: the answer's, the numbers', the reader's. -/
structure IX (w0 wx : World) (s : ByteArray) (a : Nat) (V : Array Value) : Prop where
  rd : Rd wx (w0.heap.size + 2) s a
  ar : wx.heap[w0.heap.size + 1]? = some (.cells V 89 (0, 0))
  rs : wx.heap[w0.heap.size]? = some (.cells (stiC Sti0) 23 (0, 0))
  bl : Below w0.heap.size w0 wx
section
variable {w0 wx w' : World} {s : ByteArray} {a a' : Nat} {V : Array Value}
theorem IX.get (h : IX w0 wx s a V) (hr : Rd w' (w0.heap.size + 2) s a') (hs : Stays (only (w0.heap.size + 2)) wx w') : IX w0 w' s a' V :=
  ⟨hr, by rw [hs.block _ (lt_of_block h.ar) (by show w0.heap.size + 1 ≠ w0.heap.size + 2; omega)]; exact h.ar, by rw [hs.block _ (lt_of_block h.rs) (by show w0.heap.size ≠ w0.heap.size + 2; omega)]; exact h.rs, h.bl.trans (only_below hs h.bl.size (by omega))⟩
theorem IX.put (h : IX w0 wx s a V) (k : Nat) (v : Value) : IX w0 (wx.setCell ⟨w0.heap.size + 1, k, none⟩ v) s a (V.setIfInBounds k v) :=
  ⟨by unfold Rd; rw [Below.heap_setCell _ _ _ _ (by show w0.heap.size + 2 ≠ w0.heap.size + 1; omega)]; exact h.rd, block_setCell _ _ _ _ _ _ h.ar, by rw [Below.heap_setCell _ _ _ _ (by show w0.heap.size ≠ w0.heap.size + 1; omega)]; exact h.rs, h.bl.setCell (by show w0.heap.size ≤ w0.heap.size + 1; omega) _⟩
theorem IX.next (h : IX w0 wx s a V) (hB : Below wx.heap.size wx w') : IX w0 w' s a V :=
  ⟨by unfold Rd; rw [hB.block _ h.rd.lt]; exact h.rd, by rw [hB.block _ (lt_of_block h.ar)]; exact h.ar, by rw [hB.block _ (lt_of_block h.rs)]; exact h.rs, h.bl.trans (hB.mono h.bl.size)⟩
theorem IX.c (h : IX w0 wx s a V) (k : Nat) : wx.cell? ⟨w0.heap.size + 1, k, none⟩ = V[k]? := cell_of_row _ _ _ _ _ _ h.ar
theorem IX.z (h : IX w0 wx s a V) (k : Nat) : wx.frozen? ⟨w0.heap.size + 1, k, none⟩ = false := fz_of h.ar k
theorem IX.r (h : IX w0 wx s a V) (k : Nat) : wx.cell? ⟨w0.heap.size, k, none⟩ = (stiC Sti0)[k]? := cell_of_row _ _ _ _ _ _ h.rs
theorem IX.f (h : IX w0 wx s a V) (k : Nat) : wx.frozen? ⟨w0.heap.size, k, none⟩ = false := fz_of h.rs k
end
theorem set9 (w : World) (g : Nat) (cs : Array Value) (t : TypeId) (v0 v1 v2 v3 v4 v5 v6 v7 v8 : Value) (h9 : cs.size = 9) (h : w.heap[g]? = some (.cells cs t (0, 0))) :
    (((((((((w.setCell ⟨g, 0, none⟩ v0).setCell ⟨g, 1, none⟩ v1).setCell ⟨g, 2, none⟩ v2).setCell ⟨g, 3, none⟩ v3).setCell ⟨g, 4, none⟩ v4).setCell ⟨g, 5, none⟩ v5).setCell ⟨g, 6, none⟩ v6).setCell ⟨g, 7, none⟩ v7).setCell ⟨g, 8, none⟩ v8).heap[g]? = some (.cells #[v0, v1, v2, v3, v4, v5, v6, v7, v8] t (0, 0)) := by
  rw [block_setCell _ _ _ _ _ _ (block_setCell _ _ _ _ _ _ (block_setCell _ _ _ _ _ _ (block_setCell _ _ _ _ _ _ (block_setCell _ _ _ _ _ _ (block_setCell _ _ _ _ _ _ (block_setCell _ _ _ _ _ _ (block_setCell _ _ _ _ _ _ (block_setCell _ _ _ _ _ _ h))))))))]
  obtain ⟨l⟩ := cs
  match l, h9 with
  | [c0, c1, c2, c3, c4, c5, c6, c7, c8], _ => simp
theorem set9b (w : World) (g B : Nat) (v0 v1 v2 v3 v4 v5 v6 v7 v8 : Value) {a : World} (hg : B ≤ g) (h : Below B a w) :
    Below B a (((((((((w.setCell ⟨g, 0, none⟩ v0).setCell ⟨g, 1, none⟩ v1).setCell ⟨g, 2, none⟩ v2).setCell ⟨g, 3, none⟩ v3).setCell ⟨g, 4, none⟩ v4).setCell ⟨g, 5, none⟩ v5).setCell ⟨g, 6, none⟩ v6).setCell ⟨g, 7, none⟩ v7).setCell ⟨g, 8, none⟩ v8) :=
  ((((((((h.setCell hg _).setCell hg _).setCell hg _).setCell hg _).setCell hg _).setCell hg _).setCell hg _).setCell hg _).setCell hg _
theorem widx0 (w : World) : (Instr.index 89 (.agg widA) (.int .i64 0)).run Tryd.prog w = .ok (.int .i64 16) w := by kernel_rfl
theorem widx1 (w : World) : (Instr.index 89 (.agg widA) (.int .i64 1)).run Tryd.prog w = .ok (.int .i64 16) w := by kernel_rfl
theorem widx2 (w : World) : (Instr.index 89 (.agg widA) (.int .i64 2)).run Tryd.prog w = .ok (.int .i64 24) w := by kernel_rfl
theorem widx3 (w : World) : (Instr.index 89 (.agg widA) (.int .i64 3)).run Tryd.prog w = .ok (.int .i64 24) w := by kernel_rfl
theorem widx4 (w : World) : (Instr.index 89 (.agg widA) (.int .i64 4)).run Tryd.prog w = .ok (.int .i64 20) w := by kernel_rfl
theorem widx5 (w : World) : (Instr.index 89 (.agg widA) (.int .i64 5)).run Tryd.prog w = .ok (.int .i64 3) w := by kernel_rfl
theorem widx6 (w : World) : (Instr.index 89 (.agg widA) (.int .i64 6)).run Tryd.prog w = .ok (.int .i64 5) w := by kernel_rfl
theorem widx7 (w : World) : (Instr.index 89 (.agg widA) (.int .i64 7)).run Tryd.prog w = .ok (.int .i64 36) w := by kernel_rfl

set_option maxRecDepth 20000 in
set_option maxHeartbeats 3200000 in
theorem infoIn_any (s : ByteArray) (h34 : s.size = 34) (w : World) (hW : WidAt w) : Calls Tryd.prog 20 #[.string s] w fun e w' => e = .returned (stiV (infS s)) ∧ Below w.heap.size w w' := by
  have HI : Hid (infS s = ⟨bitsAt s 0 16, bitsAt s 16 16, bitsAt s 32 24, bitsAt s 56 24, bitsAt s 80 20, (bitsAt s 100 3 : Int) + 1, (bitsAt s 103 5 : Int) + 1, bitsAt s 108 36, s.extract 18 s.size⟩) := rfl
  have K0 : Hid (∀ wx, Rd wx (w.heap.size + 2) s 0 → Calls Tryd.prog 42 #[.pointer (some ⟨w.heap.size + 2, 0, none⟩), .int .i64 16] wx fun e w' => e = .returned (.tuple #[.int .u64 (bitsAt s 0 16 : Int), .int .i64 0]) ∧ Rd w' (w.heap.size + 2) s 16 ∧ Stays (only (w.heap.size + 2)) wx w') := fun wx h => get_ok (w.heap.size + 2) s (by omega) 0 16 (by decide) (by omega) wx h
  have hv0 := bitsAt_lt s 0 16
  generalize bitsAt s 0 16 = v0 at *
  have hv0 : v0 < 65536 := hv0
  have K1 : Hid (∀ wx, Rd wx (w.heap.size + 2) s 16 → Calls Tryd.prog 42 #[.pointer (some ⟨w.heap.size + 2, 0, none⟩), .int .i64 16] wx fun e w' => e = .returned (.tuple #[.int .u64 (bitsAt s 16 16 : Int), .int .i64 0]) ∧ Rd w' (w.heap.size + 2) s 32 ∧ Stays (only (w.heap.size + 2)) wx w') := fun wx h => get_ok (w.heap.size + 2) s (by omega) 16 16 (by decide) (by omega) wx h
  have hv1 := bitsAt_lt s 16 16
  generalize bitsAt s 16 16 = v1 at *
  have hv1 : v1 < 65536 := hv1
  have K2 : Hid (∀ wx, Rd wx (w.heap.size + 2) s 32 → Calls Tryd.prog 42 #[.pointer (some ⟨w.heap.size + 2, 0, none⟩), .int .i64 24] wx fun e w' => e = .returned (.tuple #[.int .u64 (bitsAt s 32 24 : Int), .int .i64 0]) ∧ Rd w' (w.heap.size + 2) s 56 ∧ Stays (only (w.heap.size + 2)) wx w') := fun wx h => get_ok (w.heap.size + 2) s (by omega) 32 24 (by decide) (by omega) wx h
  have hv2 := bitsAt_lt s 32 24
  generalize bitsAt s 32 24 = v2 at *
  have hv2 : v2 < 16777216 := hv2
  have K3 : Hid (∀ wx, Rd wx (w.heap.size + 2) s 56 → Calls Tryd.prog 42 #[.pointer (some ⟨w.heap.size + 2, 0, none⟩), .int .i64 24] wx fun e w' => e = .returned (.tuple #[.int .u64 (bitsAt s 56 24 : Int), .int .i64 0]) ∧ Rd w' (w.heap.size + 2) s 80 ∧ Stays (only (w.heap.size + 2)) wx w') := fun wx h => get_ok (w.heap.size + 2) s (by omega) 56 24 (by decide) (by omega) wx h
  have hv3 := bitsAt_lt s 56 24
  generalize bitsAt s 56 24 = v3 at *
  have hv3 : v3 < 16777216 := hv3
  have K4 : Hid (∀ wx, Rd wx (w.heap.size + 2) s 80 → Calls Tryd.prog 42 #[.pointer (some ⟨w.heap.size + 2, 0, none⟩), .int .i64 20] wx fun e w' => e = .returned (.tuple #[.int .u64 (bitsAt s 80 20 : Int), .int .i64 0]) ∧ Rd w' (w.heap.size + 2) s 100 ∧ Stays (only (w.heap.size + 2)) wx w') := fun wx h => get_ok (w.heap.size + 2) s (by omega) 80 20 (by decide) (by omega) wx h
  have hv4 := bitsAt_lt s 80 20
  generalize bitsAt s 80 20 = v4 at *
  have hv4 : v4 < 1048576 := hv4
  have K5 : Hid (∀ wx, Rd wx (w.heap.size + 2) s 100 → Calls Tryd.prog 42 #[.pointer (some ⟨w.heap.size + 2, 0, none⟩), .int .i64 3] wx fun e w' => e = .returned (.tuple #[.int .u64 (bitsAt s 100 3 : Int), .int .i64 0]) ∧ Rd w' (w.heap.size + 2) s 103 ∧ Stays (only (w.heap.size + 2)) wx w') := fun wx h => get_ok (w.heap.size + 2) s (by omega) 100 3 (by decide) (by omega) wx h
  have hv5 := bitsAt_lt s 100 3
  generalize bitsAt s 100 3 = v5 at *
  have hv5 : v5 < 8 := hv5
  have K6 : Hid (∀ wx, Rd wx (w.heap.size + 2) s 103 → Calls Tryd.prog 42 #[.pointer (some ⟨w.heap.size + 2, 0, none⟩), .int .i64 5] wx fun e w' => e = .returned (.tuple #[.int .u64 (bitsAt s 103 5 : Int), .int .i64 0]) ∧ Rd w' (w.heap.size + 2) s 108 ∧ Stays (only (w.heap.size + 2)) wx w') := fun wx h => get_ok (w.heap.size + 2) s (by omega) 103 5 (by decide) (by omega) wx h
  have hv6 := bitsAt_lt s 103 5
  generalize bitsAt s 103 5 = v6 at *
  have hv6 : v6 < 32 := hv6
  have K7 : Hid (∀ wx, Rd wx (w.heap.size + 2) s 108 → Calls Tryd.prog 42 #[.pointer (some ⟨w.heap.size + 2, 0, none⟩), .int .i64 36] wx fun e w' => e = .returned (.tuple #[.int .u64 (bitsAt s 108 36 : Int), .int .i64 0]) ∧ Rd w' (w.heap.size + 2) s 144 ∧ Stays (only (w.heap.size + 2)) wx w') := fun wx h => get_ok (w.heap.size + 2) s (by omega) 108 36 (by decide) (by omega) wx h
  have hv7 := bitsAt_lt s 108 36
  generalize bitsAt s 108 36 = v7 at *
  have hv7 : v7 < 68719476736 := hv7
  have hsl : ∀ wx, (Instr.slice 9 (.string s) (some (.int .i64 18)) none none).run Tryd.prog wx = .ok (.string (s.extract 18 s.size)) wx := slice_from s 18 (by omega)
  have hcs : (s.extract 18 s.size).size ≤ 281474976710656 := by rw [ext_len _ _ _ (by omega) (Nat.le_refl _)]; omega
  have ko := fun w => of_spec s (by omega) w
  have kcl := fun w => clone_spec (s.extract 18 s.size) w hcs
  obtain ⟨wt, wz, hb⟩ := hW
  have hb0 := lt_of_block hb
  have HB : Hid (∀ w', Below w.heap.size w w' → w'.heap[0]? = some (.cells widA wt wz)) := fun w' h => by rw [h.block _ hb0]; exact hb
  have HA0 : Hid (((w.alloc (.cells (stiC Sti0) 23)).alloc (.cells #[.int .i64 0, .int .i64 0, .int .i64 0, .int .i64 0, .int .i64 0, .int .i64 0, .int .i64 0, .int .i64 0] 89)).heap[w.heap.size + 1]? = some (.cells #[.int .i64 0, .int .i64 0, .int .i64 0, .int .i64 0, .int .i64 0, .int .i64 0, .int .i64 0, .int .i64 0] 89 (0, 0)) ∧ ((w.alloc (.cells (stiC Sti0) 23)).alloc (.cells #[.int .i64 0, .int .i64 0, .int .i64 0, .int .i64 0, .int .i64 0, .int .i64 0, .int .i64 0, .int .i64 0] 89)).heap[w.heap.size]? = some (.cells (stiC Sti0) 23 (0, 0)) ∧ Below w.heap.size w ((w.alloc (.cells (stiC Sti0) 23)).alloc (.cells #[.int .i64 0, .int .i64 0, .int .i64 0, .int .i64 0, .int .i64 0, .int .i64 0, .int .i64 0, .int .i64 0] 89)) ∧ ((w.alloc (.cells (stiC Sti0) 23)).alloc (.cells #[.int .i64 0, .int .i64 0, .int .i64 0, .int .i64 0, .int .i64 0, .int .i64 0, .int .i64 0, .int .i64 0] 89)).heap.size = w.heap.size + 2) := by
    refine ⟨?_, ?_, ((Below.refl _ _).alloc (Nat.le_refl _) _).alloc (by simp) _, by simp⟩
    · have hh := heap_alloc_new (w.alloc (.cells (stiC Sti0) 23)) (.cells #[.int .i64 0, .int .i64 0, .int .i64 0, .int .i64 0, .int .i64 0, .int .i64 0, .int .i64 0, .int .i64 0] 89)
      rw [show (w.alloc (.cells (stiC Sti0) 23)).heap.size = w.heap.size + 1 from by simp] at hh
      exact hh
    · rw [Below.heap_alloc _ _ _ (by simp)]
      exact heap_alloc_new _ _
  clear hb hb0 hcs h34
  generalize s.extract 18 s.size = D at *
  go_enter Tryd.func20, Tryd.ntmps20
  go_wp2_with fail
  generalize World.alloc (World.alloc w _) _ = wa at *
  refine (ko wa).mono ?_
  rintro e x0 ⟨rfl, h1, h2⟩
  have HX0 : Hid (IX w x0 s 0 #[.int .i64 0, .int .i64 0, .int .i64 0, .int .i64 0, .int .i64 0, .int .i64 0, .int .i64 0, .int .i64 0]) := by
    obtain ⟨a1, a2, a3, a4⟩ := HA0.out
    rw [a4] at h1
    exact ⟨h1, by rw [h2.block _ (lt_of_block a1)]; exact a1, by rw [h2.block _ (lt_of_block a2)]; exact a2, a3.trans (h2.mono a3.size)⟩
  have hsz : wa.heap.size = w.heap.size + 2 := HA0.out.2.2.2
  rw [hsz]
  have HBX : Hid (x0.heap[0]? = some (.cells widA wt wz)) := HB.out x0 HX0.out.bl
  clear h1 h2 ko HA0 hsz HB
  go_wp2_with (refine wpList_load_row rfl 89 _ rfl 0 rfl wt widA wz _ HBX.out Tryd.underlying89 rfl info_arr8 ?_)
  clear HBX
  refine wp_loop_rounds 9 ?_
  rw [rounds_succ]
  have ix := widx0
  go_wp2_with fail
  refine (K0.out _ HX0.out.rd).mono ?_
  rintro e u0 ⟨rfl, hr, hs⟩
  have HY : Hid (IX w u0 s 16 #[.int .i64 0, .int .i64 0, .int .i64 0, .int .i64 0, .int .i64 0, .int .i64 0, .int .i64 0, .int .i64 0]) := HX0.out.get hr hs
  clear hr hs HX0 K0
  have c : u0.cell? ⟨w.heap.size + 1, 0, none⟩ = some (.int .i64 0) := HY.out.c 0
  have z := HY.out.z 0
  have HX1 : Hid (IX w (u0.setCell ⟨w.heap.size + 1, 0, none⟩ (.int .i64 (v0 : Int))) s 16 #[.int .i64 (v0 : Int), .int .i64 0, .int .i64 0, .int .i64 0, .int .i64 0, .int .i64 0, .int .i64 0, .int .i64 0]) := HY.out.put 0 _
  clear HY
  go_wp2_with fail
  clear c z ix
  generalize u0.setCell ⟨w.heap.size + 1, 0, none⟩ (.int .i64 (v0 : Int)) = x1 at *
  rw [rounds_succ]
  have ix := widx1
  go_wp2_with fail
  refine (K1.out _ HX1.out.rd).mono ?_
  rintro e u1 ⟨rfl, hr, hs⟩
  have HY : Hid (IX w u1 s 32 #[.int .i64 (v0 : Int), .int .i64 0, .int .i64 0, .int .i64 0, .int .i64 0, .int .i64 0, .int .i64 0, .int .i64 0]) := HX1.out.get hr hs
  clear hr hs HX1 K1
  have c : u1.cell? ⟨w.heap.size + 1, 1, none⟩ = some (.int .i64 0) := HY.out.c 1
  have z := HY.out.z 1
  have HX2 : Hid (IX w (u1.setCell ⟨w.heap.size + 1, 1, none⟩ (.int .i64 (v1 : Int))) s 32 #[.int .i64 (v0 : Int), .int .i64 (v1 : Int), .int .i64 0, .int .i64 0, .int .i64 0, .int .i64 0, .int .i64 0, .int .i64 0]) := HY.out.put 1 _
  clear HY
  go_wp2_with fail
  clear c z ix
  generalize u1.setCell ⟨w.heap.size + 1, 1, none⟩ (.int .i64 (v1 : Int)) = x2 at *
  rw [rounds_succ]
  have ix := widx2
  go_wp2_with fail
  refine (K2.out _ HX2.out.rd).mono ?_
  rintro e u2 ⟨rfl, hr, hs⟩
  have HY : Hid (IX w u2 s 56 #[.int .i64 (v0 : Int), .int .i64 (v1 : Int), .int .i64 0, .int .i64 0, .int .i64 0, .int .i64 0, .int .i64 0, .int .i64 0]) := HX2.out.get hr hs
  clear hr hs HX2 K2
  have c : u2.cell? ⟨w.heap.size + 1, 2, none⟩ = some (.int .i64 0) := HY.out.c 2
  have z := HY.out.z 2
  have HX3 : Hid (IX w (u2.setCell ⟨w.heap.size + 1, 2, none⟩ (.int .i64 (v2 : Int))) s 56 #[.int .i64 (v0 : Int), .int .i64 (v1 : Int), .int .i64 (v2 : Int), .int .i64 0, .int .i64 0, .int .i64 0, .int .i64 0, .int .i64 0]) := HY.out.put 2 _
  clear HY
  go_wp2_with fail
  clear c z ix
  generalize u2.setCell ⟨w.heap.size + 1, 2, none⟩ (.int .i64 (v2 : Int)) = x3 at *
  rw [rounds_succ]
  have ix := widx3
  go_wp2_with fail
  refine (K3.out _ HX3.out.rd).mono ?_
  rintro e u3 ⟨rfl, hr, hs⟩
  have HY : Hid (IX w u3 s 80 #[.int .i64 (v0 : Int), .int .i64 (v1 : Int), .int .i64 (v2 : Int), .int .i64 0, .int .i64 0, .int .i64 0, .int .i64 0, .int .i64 0]) := HX3.out.get hr hs
  clear hr hs HX3 K3
  have c : u3.cell? ⟨w.heap.size + 1, 3, none⟩ = some (.int .i64 0) := HY.out.c 3
  have z := HY.out.z 3
  have HX4 : Hid (IX w (u3.setCell ⟨w.heap.size + 1, 3, none⟩ (.int .i64 (v3 : Int))) s 80 #[.int .i64 (v0 : Int), .int .i64 (v1 : Int), .int .i64 (v2 : Int), .int .i64 (v3 : Int), .int .i64 0, .int .i64 0, .int .i64 0, .int .i64 0]) := HY.out.put 3 _
  clear HY
  go_wp2_with fail
  clear c z ix
  generalize u3.setCell ⟨w.heap.size + 1, 3, none⟩ (.int .i64 (v3 : Int)) = x4 at *
  rw [rounds_succ]
  have ix := widx4
  go_wp2_with fail
  refine (K4.out _ HX4.out.rd).mono ?_
  rintro e u4 ⟨rfl, hr, hs⟩
  have HY : Hid (IX w u4 s 100 #[.int .i64 (v0 : Int), .int .i64 (v1 : Int), .int .i64 (v2 : Int), .int .i64 (v3 : Int), .int .i64 0, .int .i64 0, .int .i64 0, .int .i64 0]) := HX4.out.get hr hs
  clear hr hs HX4 K4
  have c : u4.cell? ⟨w.heap.size + 1, 4, none⟩ = some (.int .i64 0) := HY.out.c 4
  have z := HY.out.z 4
  have HX5 : Hid (IX w (u4.setCell ⟨w.heap.size + 1, 4, none⟩ (.int .i64 (v4 : Int))) s 100 #[.int .i64 (v0 : Int), .int .i64 (v1 : Int), .int .i64 (v2 : Int), .int .i64 (v3 : Int), .int .i64 (v4 : Int), .int .i64 0, .int .i64 0, .int .i64 0]) := HY.out.put 4 _
  clear HY
  go_wp2_with fail
  clear c z ix
  generalize u4.setCell ⟨w.heap.size + 1, 4, none⟩ (.int .i64 (v4 : Int)) = x5 at *
  rw [rounds_succ]
  have ix := widx5
  go_wp2_with fail
  refine (K5.out _ HX5.out.rd).mono ?_
  rintro e u5 ⟨rfl, hr, hs⟩
  have HY : Hid (IX w u5 s 103 #[.int .i64 (v0 : Int), .int .i64 (v1 : Int), .int .i64 (v2 : Int), .int .i64 (v3 : Int), .int .i64 (v4 : Int), .int .i64 0, .int .i64 0, .int .i64 0]) := HX5.out.get hr hs
  clear hr hs HX5 K5
  have c : u5.cell? ⟨w.heap.size + 1, 5, none⟩ = some (.int .i64 0) := HY.out.c 5
  have z := HY.out.z 5
  have HX6 : Hid (IX w (u5.setCell ⟨w.heap.size + 1, 5, none⟩ (.int .i64 (v5 : Int))) s 103 #[.int .i64 (v0 : Int), .int .i64 (v1 : Int), .int .i64 (v2 : Int), .int .i64 (v3 : Int), .int .i64 (v4 : Int), .int .i64 (v5 : Int), .int .i64 0, .int .i64 0]) := HY.out.put 5 _
  clear HY
  go_wp2_with fail
  clear c z ix
  generalize u5.setCell ⟨w.heap.size + 1, 5, none⟩ (.int .i64 (v5 : Int)) = x6 at *
  rw [rounds_succ]
  have ix := widx6
  go_wp2_with fail
  refine (K6.out _ HX6.out.rd).mono ?_
  rintro e u6 ⟨rfl, hr, hs⟩
  have HY : Hid (IX w u6 s 108 #[.int .i64 (v0 : Int), .int .i64 (v1 : Int), .int .i64 (v2 : Int), .int .i64 (v3 : Int), .int .i64 (v4 : Int), .int .i64 (v5 : Int), .int .i64 0, .int .i64 0]) := HX6.out.get hr hs
  clear hr hs HX6 K6
  have c : u6.cell? ⟨w.heap.size + 1, 6, none⟩ = some (.int .i64 0) := HY.out.c 6
  have z := HY.out.z 6
  have HX7 : Hid (IX w (u6.setCell ⟨w.heap.size + 1, 6, none⟩ (.int .i64 (v6 : Int))) s 108 #[.int .i64 (v0 : Int), .int .i64 (v1 : Int), .int .i64 (v2 : Int), .int .i64 (v3 : Int), .int .i64 (v4 : Int), .int .i64 (v5 : Int), .int .i64 (v6 : Int), .int .i64 0]) := HY.out.put 6 _
  clear HY
  go_wp2_with fail
  clear c z ix
  generalize u6.setCell ⟨w.heap.size + 1, 6, none⟩ (.int .i64 (v6 : Int)) = x7 at *
  rw [rounds_succ]
  have ix := widx7
  go_wp2_with fail
  refine (K7.out _ HX7.out.rd).mono ?_
  rintro e u7 ⟨rfl, hr, hs⟩
  have HY : Hid (IX w u7 s 144 #[.int .i64 (v0 : Int), .int .i64 (v1 : Int), .int .i64 (v2 : Int), .int .i64 (v3 : Int), .int .i64 (v4 : Int), .int .i64 (v5 : Int), .int .i64 (v6 : Int), .int .i64 0]) := HX7.out.get hr hs
  clear hr hs HX7 K7
  have c : u7.cell? ⟨w.heap.size + 1, 7, none⟩ = some (.int .i64 0) := HY.out.c 7
  have z := HY.out.z 7
  have HX8 : Hid (IX w (u7.setCell ⟨w.heap.size + 1, 7, none⟩ (.int .i64 (v7 : Int))) s 144 #[.int .i64 (v0 : Int), .int .i64 (v1 : Int), .int .i64 (v2 : Int), .int .i64 (v3 : Int), .int .i64 (v4 : Int), .int .i64 (v5 : Int), .int .i64 (v6 : Int), .int .i64 (v7 : Int)]) := HY.out.put 7 _
  clear HY
  go_wp2_with fail
  clear c z ix
  generalize u7.setCell ⟨w.heap.size + 1, 7, none⟩ (.int .i64 (v7 : Int)) = x8 at *
  rw [rounds_succ]
  have KC : Hid (∀ wx, Hid (IX w wx s 144 #[.int .i64 (v0 : Int), .int .i64 (v1 : Int), .int .i64 (v2 : Int), .int .i64 (v3 : Int), .int .i64 (v4 : Int), .int .i64 (v5 : Int), .int .i64 (v6 : Int), .int .i64 (v7 : Int)]) → Calls Tryd.prog 32 #[.string D] wx fun e w' => e = .returned (.string D) ∧ Hid (IX w w' s 144 #[.int .i64 (v0 : Int), .int .i64 (v1 : Int), .int .i64 (v2 : Int), .int .i64 (v3 : Int), .int .i64 (v4 : Int), .int .i64 (v5 : Int), .int .i64 (v6 : Int), .int .i64 (v7 : Int)])) := fun wx h => (kcl wx).mono fun e w' hh => ⟨hh.1, h.out.next hh.2⟩
  clear kcl
  have HC : Hid (∀ wx : World, wx.heap[w.heap.size + 1]? = some (.cells #[.int .i64 (v0 : Int), .int .i64 (v1 : Int), .int .i64 (v2 : Int), .int .i64 (v3 : Int), .int .i64 (v4 : Int), .int .i64 (v5 : Int), .int .i64 (v6 : Int), .int .i64 (v7 : Int)] 89 (0, 0)) → wx.cell? ⟨w.heap.size + 1, 0, none⟩ = some (.int .i64 (v0 : Int)) ∧ wx.cell? ⟨w.heap.size + 1, 1, none⟩ = some (.int .i64 (v1 : Int)) ∧ wx.cell? ⟨w.heap.size + 1, 2, none⟩ = some (.int .i64 (v2 : Int)) ∧ wx.cell? ⟨w.heap.size + 1, 3, none⟩ = some (.int .i64 (v3 : Int)) ∧ wx.cell? ⟨w.heap.size + 1, 4, none⟩ = some (.int .i64 (v4 : Int)) ∧ wx.cell? ⟨w.heap.size + 1, 5, none⟩ = some (.int .i64 (v5 : Int)) ∧ wx.cell? ⟨w.heap.size + 1, 6, none⟩ = some (.int .i64 (v6 : Int)) ∧ wx.cell? ⟨w.heap.size + 1, 7, none⟩ = some (.int .i64 (v7 : Int))) := fun wx h => ⟨cell_of_row _ _ 0 _ _ _ h, cell_of_row _ _ 1 _ _ _ h, cell_of_row _ _ 2 _ _ _ h, cell_of_row _ _ 3 _ _ _ h, cell_of_row _ _ 4 _ _ _ h, cell_of_row _ _ 5 _ _ _ h, cell_of_row _ _ 6 _ _ _ h, cell_of_row _ _ 7 _ _ _ h⟩
  have HD : Hid (IX w x8.drew s 144 #[.int .i64 (v0 : Int), .int .i64 (v1 : Int), .int .i64 (v2 : Int), .int .i64 (v3 : Int), .int .i64 (v4 : Int), .int .i64 (v5 : Int), .int .i64 (v6 : Int), .int .i64 (v7 : Int)]) := HX8.out.next ⟨rfl, rfl, rfl, Nat.le_refl _, fun _ _ => rfl⟩
  clear HX8
  go_wp2_with fail
  refine wp_region_held_drew (S := fun wx => wx.heap[w.heap.size + 1]? = some (.cells #[.int .i64 (v0 : Int), .int .i64 (v1 : Int), .int .i64 (v2 : Int), .int .i64 (v3 : Int), .int .i64 (v4 : Int), .int .i64 (v5 : Int), .int .i64 (v6 : Int), .int .i64 (v7 : Int)] 89 (0, 0))) (by kernel_rfl) HD.out.ar (fun hS => ?_)
  refine wpAnyH_take (i := 0) (v := .pointer (some ⟨w.heap.size + 1, 0, none⟩)) rfl (by kernel_rfl) (by kernel_rfl) (by kernel_rfl) (fun _ _ _ h => h) (Or.inl ⟨by rfl, fun w hSw => by go_simp⟩) hS ?_
  simp only [Act.put, List.getElem_toArray, List.getElem_cons_succ, List.getElem_cons_zero, List.setIfInBounds_toArray, List.set_cons_zero, List.set_cons_succ]
  refine wpAnyH_take (i := 1) (v := .int .i64 (v0 : Int)) rfl (by kernel_rfl) (by kernel_rfl) (by kernel_rfl) (fun _ _ _ h => h) (Or.inl ⟨by rfl, fun w hSw => by obtain ⟨c0, c1, c2, c3, c4, c5, c6, c7⟩ := HC.out _ hSw; go_simp⟩) hS ?_
  simp only [Act.put, List.getElem_toArray, List.getElem_cons_succ, List.getElem_cons_zero, List.setIfInBounds_toArray, List.set_cons_zero, List.set_cons_succ]
  refine wpAnyH_take (i := 2) (v := .pointer (some ⟨w.heap.size + 1, 1, none⟩)) rfl (by kernel_rfl) (by kernel_rfl) (by kernel_rfl) (fun _ _ _ h => h) (Or.inl ⟨by rfl, fun w hSw => by go_simp⟩) hS ?_
  simp only [Act.put, List.getElem_toArray, List.getElem_cons_succ, List.getElem_cons_zero, List.setIfInBounds_toArray, List.set_cons_zero, List.set_cons_succ]
  refine wpAnyH_take (i := 3) (v := .int .i64 (v1 : Int)) rfl (by kernel_rfl) (by kernel_rfl) (by kernel_rfl) (fun _ _ _ h => h) (Or.inl ⟨by rfl, fun w hSw => by obtain ⟨c0, c1, c2, c3, c4, c5, c6, c7⟩ := HC.out _ hSw; go_simp⟩) hS ?_
  simp only [Act.put, List.getElem_toArray, List.getElem_cons_succ, List.getElem_cons_zero, List.setIfInBounds_toArray, List.set_cons_zero, List.set_cons_succ]
  refine wpAnyH_take (i := 4) (v := .pointer (some ⟨w.heap.size + 1, 2, none⟩)) rfl (by kernel_rfl) (by kernel_rfl) (by kernel_rfl) (fun _ _ _ h => h) (Or.inl ⟨by rfl, fun w hSw => by go_simp⟩) hS ?_
  simp only [Act.put, List.getElem_toArray, List.getElem_cons_succ, List.getElem_cons_zero, List.setIfInBounds_toArray, List.set_cons_zero, List.set_cons_succ]
  refine wpAnyH_take (i := 5) (v := .int .i64 (v2 : Int)) rfl (by kernel_rfl) (by kernel_rfl) (by kernel_rfl) (fun _ _ _ h => h) (Or.inl ⟨by rfl, fun w hSw => by obtain ⟨c0, c1, c2, c3, c4, c5, c6, c7⟩ := HC.out _ hSw; go_simp⟩) hS ?_
  simp only [Act.put, List.getElem_toArray, List.getElem_cons_succ, List.getElem_cons_zero, List.setIfInBounds_toArray, List.set_cons_zero, List.set_cons_succ]
  refine wpAnyH_take (i := 6) (v := .pointer (some ⟨w.heap.size + 1, 3, none⟩)) rfl (by kernel_rfl) (by kernel_rfl) (by kernel_rfl) (fun _ _ _ h => h) (Or.inl ⟨by rfl, fun w hSw => by go_simp⟩) hS ?_
  simp only [Act.put, List.getElem_toArray, List.getElem_cons_succ, List.getElem_cons_zero, List.setIfInBounds_toArray, List.set_cons_zero, List.set_cons_succ]
  refine wpAnyH_take (i := 7) (v := .int .i64 (v3 : Int)) rfl (by kernel_rfl) (by kernel_rfl) (by kernel_rfl) (fun _ _ _ h => h) (Or.inl ⟨by rfl, fun w hSw => by obtain ⟨c0, c1, c2, c3, c4, c5, c6, c7⟩ := HC.out _ hSw; go_simp⟩) hS ?_
  simp only [Act.put, List.getElem_toArray, List.getElem_cons_succ, List.getElem_cons_zero, List.setIfInBounds_toArray, List.set_cons_zero, List.set_cons_succ]
  refine wpAnyH_take (i := 8) (v := .pointer (some ⟨w.heap.size + 1, 4, none⟩)) rfl (by kernel_rfl) (by kernel_rfl) (by kernel_rfl) (fun _ _ _ h => h) (Or.inl ⟨by rfl, fun w hSw => by go_simp⟩) hS ?_
  simp only [Act.put, List.getElem_toArray, List.getElem_cons_succ, List.getElem_cons_zero, List.setIfInBounds_toArray, List.set_cons_zero, List.set_cons_succ]
  refine wpAnyH_take (i := 9) (v := .int .i64 (v4 : Int)) rfl (by kernel_rfl) (by kernel_rfl) (by kernel_rfl) (fun _ _ _ h => h) (Or.inl ⟨by rfl, fun w hSw => by obtain ⟨c0, c1, c2, c3, c4, c5, c6, c7⟩ := HC.out _ hSw; go_simp⟩) hS ?_
  simp only [Act.put, List.getElem_toArray, List.getElem_cons_succ, List.getElem_cons_zero, List.setIfInBounds_toArray, List.set_cons_zero, List.set_cons_succ]
  refine wpAnyH_take (i := 10) (v := .pointer (some ⟨w.heap.size + 1, 5, none⟩)) rfl (by kernel_rfl) (by kernel_rfl) (by kernel_rfl) (fun _ _ _ h => h) (Or.inl ⟨by rfl, fun w hSw => by go_simp⟩) hS ?_
  simp only [Act.put, List.getElem_toArray, List.getElem_cons_succ, List.getElem_cons_zero, List.setIfInBounds_toArray, List.set_cons_zero, List.set_cons_succ]
  refine wpAnyH_take (i := 11) (v := .int .i64 (v5 : Int)) rfl (by kernel_rfl) (by kernel_rfl) (by kernel_rfl) (fun _ _ _ h => h) (Or.inl ⟨by rfl, fun w hSw => by obtain ⟨c0, c1, c2, c3, c4, c5, c6, c7⟩ := HC.out _ hSw; go_simp⟩) hS ?_
  simp only [Act.put, List.getElem_toArray, List.getElem_cons_succ, List.getElem_cons_zero, List.setIfInBounds_toArray, List.set_cons_zero, List.set_cons_succ]
  refine wpAnyH_take (i := 12) (v := .int .i64 ((v5 : Int) + 1)) rfl (by kernel_rfl) (by kernel_rfl) (by kernel_rfl) (fun _ _ _ h => h) (Or.inl ⟨by rfl, fun w hSw => by go_simp; rw [IntKind.wrap_i64]; omega⟩) hS ?_
  simp only [Act.put, List.getElem_toArray, List.getElem_cons_succ, List.getElem_cons_zero, List.setIfInBounds_toArray, List.set_cons_zero, List.set_cons_succ]
  refine wpAnyH_take (i := 13) (v := .pointer (some ⟨w.heap.size + 1, 6, none⟩)) rfl (by kernel_rfl) (by kernel_rfl) (by kernel_rfl) (fun _ _ _ h => h) (Or.inl ⟨by rfl, fun w hSw => by go_simp⟩) hS ?_
  simp only [Act.put, List.getElem_toArray, List.getElem_cons_succ, List.getElem_cons_zero, List.setIfInBounds_toArray, List.set_cons_zero, List.set_cons_succ]
  refine wpAnyH_take (i := 14) (v := .int .i64 (v6 : Int)) rfl (by kernel_rfl) (by kernel_rfl) (by kernel_rfl) (fun _ _ _ h => h) (Or.inl ⟨by rfl, fun w hSw => by obtain ⟨c0, c1, c2, c3, c4, c5, c6, c7⟩ := HC.out _ hSw; go_simp⟩) hS ?_
  simp only [Act.put, List.getElem_toArray, List.getElem_cons_succ, List.getElem_cons_zero, List.setIfInBounds_toArray, List.set_cons_zero, List.set_cons_succ]
  refine wpAnyH_take (i := 15) (v := .int .i64 ((v6 : Int) + 1)) rfl (by kernel_rfl) (by kernel_rfl) (by kernel_rfl) (fun _ _ _ h => h) (Or.inl ⟨by rfl, fun w hSw => by go_simp; rw [IntKind.wrap_i64]; omega⟩) hS ?_
  simp only [Act.put, List.getElem_toArray, List.getElem_cons_succ, List.getElem_cons_zero, List.setIfInBounds_toArray, List.set_cons_zero, List.set_cons_succ]
  refine wpAnyH_take (i := 16) (v := .pointer (some ⟨w.heap.size + 1, 7, none⟩)) rfl (by kernel_rfl) (by kernel_rfl) (by kernel_rfl) (fun _ _ _ h => h) (Or.inl ⟨by rfl, fun w hSw => by go_simp⟩) hS ?_
  simp only [Act.put, List.getElem_toArray, List.getElem_cons_succ, List.getElem_cons_zero, List.setIfInBounds_toArray, List.set_cons_zero, List.set_cons_succ]
  refine wpAnyH_take (i := 17) (v := .int .i64 (v7 : Int)) rfl (by kernel_rfl) (by kernel_rfl) (by kernel_rfl) (fun _ _ _ h => h) (Or.inl ⟨by rfl, fun w hSw => by obtain ⟨c0, c1, c2, c3, c4, c5, c6, c7⟩ := HC.out _ hSw; go_simp⟩) hS ?_
  simp only [Act.put, List.getElem_toArray, List.getElem_cons_succ, List.getElem_cons_zero, List.setIfInBounds_toArray, List.set_cons_zero, List.set_cons_succ]
  refine wpAnyH_take (i := 18) (v := .string s) rfl (by kernel_rfl) (by kernel_rfl) (by kernel_rfl) (fun _ _ _ h => h) (Or.inl ⟨by rfl, fun w hSw => by go_simp⟩) hS ?_
  simp only [Act.put, List.getElem_toArray, List.getElem_cons_succ, List.getElem_cons_zero, List.setIfInBounds_toArray, List.set_cons_zero, List.set_cons_succ]
  refine wpAnyH_take (i := 19) (v := .string D) rfl (by kernel_rfl) (by kernel_rfl) (by kernel_rfl) (fun _ _ _ h => h) (Or.inl ⟨by rfl, fun w hSw => by go_simp⟩) hS ?_
  simp only [Act.put, List.getElem_toArray, List.getElem_cons_succ, List.getElem_cons_zero, List.setIfInBounds_toArray, List.set_cons_zero, List.set_cons_succ]
  refine wpAnyH_ready (rs := [20]) (by kernel_rfl) (by simp) ?_
  refine AllReadyH.cons rfl (fun K hK => ?_) AllReadyH.nil
  go_simp
  refine (KC.out _ HD).mono ?_
  rintro e w4 ⟨rfl, h4⟩
  refine hK.out _ _ h4.out.ar (fun hS4 => ?_)
  clear hK K
  refine wpAnyH_take (i := 21) (v := .agg #[.int .i64 (v0 : Int), .int .i64 (v1 : Int), .int .i64 (v2 : Int), .int .i64 (v3 : Int), .int .i64 (v4 : Int), .int .i64 ((v5 : Int) + 1), .int .i64 ((v6 : Int) + 1), .int .i64 (v7 : Int), .string D]) rfl (by kernel_rfl) (by kernel_rfl) (by kernel_rfl) (fun _ _ _ h => h) (Or.inl ⟨by rfl, fun w hSw => by go_simp⟩) hS4 ?_
  simp only [Act.put, List.getElem_toArray, List.getElem_cons_succ, List.getElem_cons_zero, List.setIfInBounds_toArray, List.set_cons_zero, List.set_cons_succ]
  have hx := h4.out
  have f0 := hx.f 0
  have a0 : w4.cell? ⟨w.heap.size, 0, none⟩ = some (.int .i64 0) := hx.r 0
  have f1 := hx.f 1
  have a1 : w4.cell? ⟨w.heap.size, 1, none⟩ = some (.int .i64 0) := hx.r 1
  have f2 := hx.f 2
  have a2 : w4.cell? ⟨w.heap.size, 2, none⟩ = some (.int .i64 0) := hx.r 2
  have f3 := hx.f 3
  have a3 : w4.cell? ⟨w.heap.size, 3, none⟩ = some (.int .i64 0) := hx.r 3
  have f4 := hx.f 4
  have a4 : w4.cell? ⟨w.heap.size, 4, none⟩ = some (.int .i64 0) := hx.r 4
  have f5 := hx.f 5
  have a5 : w4.cell? ⟨w.heap.size, 5, none⟩ = some (.int .i64 0) := hx.r 5
  have f6 := hx.f 6
  have a6 : w4.cell? ⟨w.heap.size, 6, none⟩ = some (.int .i64 0) := hx.r 6
  have f7 := hx.f 7
  have a7 : w4.cell? ⟨w.heap.size, 7, none⟩ = some (.int .i64 0) := hx.r 7
  have f8 := hx.f 8
  have a8 : w4.cell? ⟨w.heap.size, 8, none⟩ = some (.string ⟨#[]⟩) := hx.r 8
  have HR4 : Hid (w4.heap[w.heap.size]? = some (.cells (stiC Sti0) 23 (0, 0)) ∧ Below w.heap.size w w4) := ⟨hx.rs, hx.bl⟩
  clear HC KC HD hS hx h4
  refine wpAnyH_ready (rs := [22]) (by kernel_rfl) (by simp) ?_
  refine AllReadyH.cons rfl (fun K hK => ?_) AllReadyH.nil
  go_simp
  generalize hwf : World.setCell _ _ _ = wf at *
  have HF : Hid (wf.heap[w.heap.size]? = some (.cells #[.int .i64 (v0 : Int), .int .i64 (v1 : Int), .int .i64 (v2 : Int), .int .i64 (v3 : Int), .int .i64 (v4 : Int), .int .i64 ((v5 : Int) + 1), .int .i64 ((v6 : Int) + 1), .int .i64 (v7 : Int), .string D] 23 (0, 0)) ∧ Below w.heap.size w wf) := by
    rw [← hwf]
    exact ⟨set9 _ _ _ _ _ _ _ _ _ _ _ _ _ rfl HR4.out.1, set9b _ _ _ _ _ _ _ _ _ _ _ _ (Nat.le_refl _) HR4.out.2⟩
  have hA : wf.heap[w.heap.size + 1]? = some (.cells #[.int .i64 (v0 : Int), .int .i64 (v1 : Int), .int .i64 (v2 : Int), .int .i64 (v3 : Int), .int .i64 (v4 : Int), .int .i64 (v5 : Int), .int .i64 (v6 : Int), .int .i64 (v7 : Int)] 89 (0, 0)) := by
    rw [← hwf]
    simp only [World.setCell, Array.getElem?_modify]
    rw [if_neg (by omega), if_neg (by omega), if_neg (by omega), if_neg (by omega), if_neg (by omega), if_neg (by omega), if_neg (by omega), if_neg (by omega), if_neg (by omega)]
    exact hS4
  refine hK.out _ _ hA (fun hS5 => ?_)
  clear hK K hwf hS4 HR4 hA f0 a0 f1 a1 f2 a2 f3 a3 f4 a4 f5 a5 f6 a6 f7 a7 f8 a8
  refine wpAnyH_done (by kernel_rfl) ?_ _
  go_wp2_with fail
  refine bodyPost_ret (v := stiV (infS s)) ?_ rfl ⟨rfl, HF.out.2⟩
  rw [res_one13 rfl]
  have hld := run_loadVar_row (P := Tryd.prog) wf w.heap.size 23 23 _ (0, 0) _ HF.out.1 Tryd.underlying23 rfl info_sti
  rw [HI.out]
  simp [asAddr, Result.andThen, hld]

end Go.Proofs.YtfmpiidnemhijaaDoor
