/- Own text: the walk of the program's 'mixed': what a block makes of the four numbers; its two constant tables. -/
import Derived.Test.YtolmijpecomkcaaDoorMdblock
import Derived.Test.YtolmijpecomkcaaDoorDparts
namespace Go.Proofs.YtolmijpecomkcaaDoor.Dg
open Go.RowKit
set_option linter.unusedSimpArgs false
set_option linter.unusedVariables false

/-- The program's two tables lie where they were laid. -/
structure TabsAt (w : World) : Prop where
  sines : ∃ t fz, w.heap[1]? = some (.cells (kL.map fun (n : Nat) => Value.int .u32 (n : Int)).toArray t fz)
  turns : ∃ t fz, w.heap[2]? = some (.cells (rL.map fun (n : Nat) => Value.int .i64 (n : Int)).toArray t fz)

theorem TabsAt.two {w : World} (h : TabsAt w) : 3 ≤ w.heap.size := by
  obtain ⟨t, fz, h1⟩ := h.turns
  have := lt_of_block h1
  omega
theorem TabsAt.below {B : Nat} {w w' : World} (h : TabsAt w) (hB : 3 ≤ B) (hb : Below B w w') : TabsAt w' := by
  obtain ⟨t0, f0, h0⟩ := h.sines
  obtain ⟨t1, f1, h1⟩ := h.turns
  exact ⟨⟨t0, f0, by rw [hb.block 1 (by omega)]; exact h0⟩, ⟨t1, f1, by rw [hb.block 2 (by omega)]; exact h1⟩⟩
theorem TabsAt.other {w w' : World} (h : TabsAt w) (p : Nat) (hp : p ≠ 1 ∧ p ≠ 2) (hb : ∀ k, k ≠ p → w'.heap[k]? = w.heap[k]?) : TabsAt w' := by
  obtain ⟨t0, f0, h0⟩ := h.sines
  obtain ⟨t1, f1, h1⟩ := h.turns
  exact ⟨⟨t0, f0, by rw [hb 1 (by omega)]; exact h0⟩, ⟨t1, f1, by rw [hb 2 (by omega)]; exact h1⟩⟩
theorem TabsAt.k {w : World} (h : TabsAt w) (i : Nat) (hi : i < 64) : w.cell? ⟨1, i, none⟩ = some (.int .u32 ((kOf i).toNat : Int)) := by
  obtain ⟨t, fz, h0⟩ := h.sines
  rw [cell_of_row _ _ _ _ _ _ h0]
  have hl : i < kL.length := hi
  have hk := k_lt i hi
  unfold kOf
  rw [BitVec.toNat_ofNat, Nat.mod_eq_of_lt hk, List.getElem?_toArray, List.getElem?_map, List.getElem?_eq_getElem hl, List.getD_eq_getElem?_getD, List.getElem?_eq_getElem hl]
  rfl
theorem TabsAt.r {w : World} (h : TabsAt w) (i : Nat) (hi : i < 64) : w.cell? ⟨2, i / 16 * 4 + i % 4, none⟩ = some (.int .i64 (turnOf i : Int)) := by
  obtain ⟨t, fz, h0⟩ := h.turns
  rw [cell_of_row _ _ _ _ _ _ h0]
  have hq := q_all ⟨i, hi⟩
  simp only at hq
  unfold turnOf
  generalize i / 16 * 4 + i % 4 = j at *
  have hl : j < rL.length := hq
  rw [List.getElem?_toArray, List.getElem?_map, List.getElem?_eq_getElem hl, List.getD_eq_getElem?_getD, List.getElem?_eq_getElem hl]
  rfl

/-- Sixteen words as an array's cells. -/
def wordsV (x : Nat → BitVec 32) : Array Value := ((List.range 16).map fun g => Value.int .u32 ((x g).toNat : Int)).toArray
theorem wordsV_size (x : Nat → BitVec 32) : (wordsV x).size = 16 := by simp [wordsV]
theorem wordsV_get (x : Nat → BitVec 32) (g : Nat) (h : g < 16) : (wordsV x)[g]? = some (.int .u32 ((x g).toNat : Int)) := by simp [wordsV, h]

theorem info40 : (Tryd.prog.info? 84).map (·.size) = some 4 := by kernel_rfl

/-- What stays through the loop: the registers as they came, the words, the result's cells, the tables. -/
structure Mix (w0 : World) (q : Reg4) (x : Nat → BitVec 32) (w : World) : Prop where
  came : w.heap[w0.heap.size]? = some (.cells (regV q) 84 (0, 0))
  words : w.heap[w0.heap.size + 1]? = some (.cells (wordsV x) 90 (0, 0))
  out : w.heap[w0.heap.size + 2]? = some (.cells #[.int .u32 0, .int .u32 0, .int .u32 0, .int .u32 0] 84 (0, 0))
  tabs : TabsAt w
  below : Below w0.heap.size w0 w

theorem Mix.drewN {w0 w : World} {q : Reg4} {x : Nat → BitVec 32} (h : Mix w0 q x w) (n : Nat) : Mix w0 q x (w.drewN n) :=
  ⟨h.came, h.words, h.out, ⟨h.tabs.sines, h.tabs.turns⟩, ⟨h.below.os, h.below.tape, h.below.output, h.below.size, h.below.block⟩⟩

set_option maxRecDepth 20000 in
set_option maxHeartbeats 4000000 in
theorem mixed_spec (q : Reg4) (l : List Nat) (w : World) (hT : TabsAt w) :
    Calls Tryd.prog 54 #[.agg (regV q), .agg (wordsV (word l))] w fun e w' => e = .returned (.agg (regV (mblock q l))) ∧ Below w.heap.size w w' := by
  have h2 := hT.two
  have HT : Hid (TabsAt w) := hT
  clear hT
  have HX : Hid (mblock q l = ⟨q.a + (msteps (word l) q 64).a, q.b + (msteps (word l) q 64).b, q.c + (msteps (word l) q 64).c, q.d + (msteps (word l) q 64).d⟩) := rfl
  generalize mblock q l = R at *
  generalize word l = x at *
  clear l
  go_enter Tryd.func54, Tryd.ntmps54
  go_wp2_with fail
  go_quiet (fail)
  go_wp2_with fail
  generalize hwa : World.drewN _ _ = wa
  have HG : Hid (Mix w q x wa) := by
    have hs : ∀ (o1 o2 o3 : Obj), (((w.alloc o1).alloc o2).alloc o3).heap.size = w.heap.size + 3 := by intros; simp
    have h0 : wa.heap[w.heap.size]? = some (.cells (regV q) 84 (0, 0)) := by
      rw [← hwa]
      show (((w.alloc _).alloc _).alloc _).heap[w.heap.size]? = _
      rw [Below.heap_alloc _ _ _ (by simp; omega), Below.heap_alloc _ _ _ (by simp)]
      exact heap_alloc_new _ _
    have h1 : wa.heap[w.heap.size + 1]? = some (.cells (wordsV x) 90 (0, 0)) := by
      rw [← hwa]
      show (((w.alloc (.cells (regV q) 84)).alloc (.cells (wordsV x) 90)).alloc _).heap[w.heap.size + 1]? = _
      rw [Below.heap_alloc _ _ _ (by simp)]
      have h := heap_alloc_new (w.alloc (.cells (regV q) 84)) (.cells (wordsV x) 90)
      have e : (w.alloc (.cells (regV q) 84)).heap.size = w.heap.size + 1 := by simp
      rw [e] at h
      exact h
    have h3 : wa.heap[w.heap.size + 2]? = some (.cells #[.int .u32 0, .int .u32 0, .int .u32 0, .int .u32 0] 84 (0, 0)) := by
      rw [← hwa]
      have h := heap_alloc_new ((w.alloc (.cells (regV q) 84)).alloc (.cells (wordsV x) 90)) (.cells #[.int .u32 0, .int .u32 0, .int .u32 0, .int .u32 0] 84)
      have e : ((w.alloc (.cells (regV q) 84)).alloc (.cells (wordsV x) 90)).heap.size = w.heap.size + 2 := by simp
      rw [e] at h
      exact h
    have hB : Below w.heap.size w wa := by
      rw [← hwa]
      have h := (((Below.refl w.heap.size w).alloc (Nat.le_refl _) (.cells (regV q) 84)).alloc (by simp) (.cells (wordsV x) 90)).alloc (by simp; omega) (.cells #[.int .u32 0, .int .u32 0, .int .u32 0, .int .u32 0] 84)
      exact ⟨h.os, h.tape, h.output, h.size, h.block⟩
    exact ⟨h0, h1, h3, HT.out.below h2 hB, hB⟩
  clear hwa
  go_loopw [5, 6, 7, 8, 21] (fun ua ub uc ud ui wr => ∃ (i : Nat) (r : Reg4), i ≤ 64 ∧ r = msteps x q i ∧ ua = .int .u32 (r.a.toNat : Int) ∧ ub = .int .u32 (r.b.toNat : Int) ∧ uc = .int .u32 (r.c.toNat : Int) ∧ ud = .int .u32 (r.d.toNat : Int) ∧ ui = .int .i64 (i : Int) ∧ Mix w q x wr) (fun _ _ _ _ ui _ => 64 - (intOf ui).toNat)
  case atStart => exact ⟨0, q, Nat.zero_le _, rfl, rfl, rfl, rfl, rfl, rfl, HG.out⟩
  case round =>
    clear HG
    obtain ⟨i, r, hi, hr, rfl, rfl, rfl, rfl, rfl, hg⟩ := hrel
    have HW : Hid (Mix w q x wr) := hg
    clear hg
    by_cases hlt : i < 64
    · have hgl := gOf_lt i hlt
      have hgm : ((gRaw i : Nat) : Int) % 16 = (gOf i : Int) := by rw [← gRaw_mod i]; omega
      have hgr := gRaw_lt i hlt
      have hq := q_all ⟨i, hlt⟩
      simp only at hq
      obtain ⟨ht1, ht2⟩ := turn_range i hlt
      have km := choice_spec i hlt r.b r.c r.d
      have f1 := m_add r.a (fOf i r.b r.c r.d)
      have f2 := m_add (r.a + fOf i r.b r.c r.d) (kOf i)
      have f3 := m_add (r.a + fOf i r.b r.c r.d + kOf i) (x (gOf i))
      have f7 := m_add r.b (rot (r.a + fOf i r.b r.c r.d + kOf i + x (gOf i)) (turnOf i))
      have kr := rotate_spec (r.a + fOf i r.b r.c r.d + kOf i + x (gOf i)) (turnOf i) ht1 ht2
      have HS : Hid (mstep x r i = msteps x q (i + 1)) := by
        show _ = _
        rw [hr]
        rfl
      have ck := HW.out.tabs.k i hlt
      have cr := HW.out.tabs.r i hlt
      have cw : wr.cell? ⟨w.heap.size + 1, gOf i, none⟩ = some (.int .u32 ((x (gOf i)).toNat : Int)) := by
        rw [cell_of_row _ _ _ _ _ _ HW.out.words, wordsV_get x _ hgl]
      have HE : Hid ((mstep x r i).b = r.b + rot (r.a + fOf i r.b r.c r.d + kOf i + x (gOf i)) (turnOf i)) := rfl
      clear hr
      generalize r.b + rot (r.a + fOf i r.b r.c r.d + kOf i + x (gOf i)) (turnOf i) = nb at *
      generalize rot (r.a + fOf i r.b r.c r.d + kOf i + x (gOf i)) (turnOf i) = x6 at *
      generalize r.a + fOf i r.b r.c r.d + kOf i + x (gOf i) = x3 at *
      generalize r.a + fOf i r.b r.c r.d + kOf i = x2 at *
      generalize r.a + fOf i r.b r.c r.d = x1 at *
      generalize fOf i r.b r.c r.d = ff at *
      generalize kOf i = kk at *
      generalize x (gOf i) = ww at *
      have HF7 : Hid (((r.b.toNat : Int) + (x6.toNat : Int)) % 4294967296 = (nb.toNat : Int)) := f7
      clear f7
      generalize gOf i = gg at *
      generalize gRaw i = gr at *
      go_wp2_with fail
      refine (km wr).mono ?_
      rintro e w2 ⟨rfl, hw2⟩
      rw [hw2]
      clear hw2 km
      go_wp2_with fail
      go_quiet ((go_at_call 66; exact Calls.quiet_of_same (kr _)))
      go_wp2_with fail
      go_roundw
      case rel => exact ⟨i + 1, _, by omega, HS.out, rfl, by rw [HE.out, HF7.out], rfl, rfl, by go_num, HW.out.drewN _⟩
      case measure => simp [intOf]; omega
    · have h64 : i = 64 := by omega
      have HR : Hid (R = ⟨q.a + r.a, q.b + r.b, q.c + r.c, q.d + r.d⟩) := by
        show _ = _
        rw [HX.out, hr, h64]
      clear hr h64
      have f1 := m_add q.a r.a
      have f2 := m_add q.b r.b
      have f3 := m_add q.c r.c
      have f4 := m_add q.d r.d
      have c0 : wr.cell? ⟨w.heap.size, 0, none⟩ = some (.int .u32 (q.a.toNat : Int)) := by rw [cell_of_row _ _ _ _ _ _ HW.out.came]; rfl
      have c1 : wr.cell? ⟨w.heap.size, 1, none⟩ = some (.int .u32 (q.b.toNat : Int)) := by rw [cell_of_row _ _ _ _ _ _ HW.out.came]; rfl
      have c2 : wr.cell? ⟨w.heap.size, 2, none⟩ = some (.int .u32 (q.c.toNat : Int)) := by rw [cell_of_row _ _ _ _ _ _ HW.out.came]; rfl
      have c3 : wr.cell? ⟨w.heap.size, 3, none⟩ = some (.int .u32 (q.d.toNat : Int)) := by rw [cell_of_row _ _ _ _ _ _ HW.out.came]; rfl
      generalize q.a + r.a = s1 at *
      generalize q.b + r.b = s2 at *
      generalize q.c + r.c = s3 at *
      generalize q.d + r.d = s4 at *
      have o0 : wr.cell? ⟨w.heap.size + 1 + 1, 0, none⟩ = some (.int .u32 0) := by rw [cell_of_row _ _ _ _ _ _ HW.out.out]; rfl
      have o1 : wr.cell? ⟨w.heap.size + 1 + 1, 1, none⟩ = some (.int .u32 0) := by rw [cell_of_row _ _ _ _ _ _ HW.out.out]; rfl
      have o2 : wr.cell? ⟨w.heap.size + 1 + 1, 2, none⟩ = some (.int .u32 0) := by rw [cell_of_row _ _ _ _ _ _ HW.out.out]; rfl
      have o3 : wr.cell? ⟨w.heap.size + 1 + 1, 3, none⟩ = some (.int .u32 0) := by rw [cell_of_row _ _ _ _ _ _ HW.out.out]; rfl
      have hoo := HW.out.out
      have z0 : wr.frozen? ⟨w.heap.size + 1 + 1, 0, none⟩ = false := by simp [World.frozen?, hoo]
      have z1 : wr.frozen? ⟨w.heap.size + 1 + 1, 1, none⟩ = false := by simp [World.frozen?, hoo]
      have z2 : wr.frozen? ⟨w.heap.size + 1 + 1, 2, none⟩ = false := by simp [World.frozen?, hoo]
      have z3 : wr.frozen? ⟨w.heap.size + 1 + 1, 3, none⟩ = false := by simp [World.frozen?, hoo]
      clear hoo
      go_wp2
      generalize hwf : (((wr.setCell ⟨w.heap.size + 1 + 1, 0, none⟩ (.int .u32 (s1.toNat : Int))).setCell ⟨w.heap.size + 1 + 1, 1, none⟩ (.int .u32 (s2.toNat : Int))).setCell ⟨w.heap.size + 1 + 1, 2, none⟩ (.int .u32 (s3.toNat : Int))).setCell ⟨w.heap.size + 1 + 1, 3, none⟩ (.int .u32 (s4.toNat : Int)) = wf
      have hrow : wf.heap[w.heap.size + 2]? = some (.cells (regV ⟨s1, s2, s3, s4⟩) 84 (0, 0)) := by
        rw [← hwf, block_setCell _ _ _ _ _ _ (block_setCell _ _ _ _ _ _ (block_setCell _ _ _ _ _ _ (block_setCell _ _ _ _ _ _ HW.out.out)))]
        rfl
      have hbel : Below w.heap.size w wf := by
        rw [← hwf]
        exact (((HW.out.below.setCell (by simp; omega) _).setCell (by simp; omega) _).setCell (by simp; omega) _).setCell (by simp; omega) _
      refine bodyPost_ret (v := .agg (regV ⟨s1, s2, s3, s4⟩)) ?_ rfl ⟨by rw [HR.out], hbel⟩
      rw [results_cell rfl]
      have hld := run_loadVar_row (P := Tryd.prog) wf (w.heap.size + 2) 84 84 (regV ⟨s1, s2, s3, s4⟩) (0, 0) _ hrow Tryd.underlying84 rfl info40
      simp [asAddr, Result.andThen, hld]

end Go.Proofs.YtolmijpecomkcaaDoor.Dg
