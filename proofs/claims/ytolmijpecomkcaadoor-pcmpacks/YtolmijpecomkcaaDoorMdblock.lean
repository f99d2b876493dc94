/- Own text: the walk of the document's block of the digest. -/
import Derived.Test.YtolmijpecomkcaaDoorMdref
import Derived.Laws.ResultCell
import Derived.Laws.Strings2
import Derived.Laws.Tables
namespace Go.Proofs.YtolmijpecomkcaaDoor
open Go.RowKit
set_option linter.unusedSimpArgs false
set_option linter.unusedVariables false



theorem four (l : List Nat) (k : Nat) (h : k + 4 ≤ l.length) : (l.take (k + 4)).drop k = [l.getD k 0, l.getD (k + 1) 0, l.getD (k + 2) 0, l.getD (k + 3) 0] := by
  apply List.ext_getElem?
  intro j
  rw [List.getElem?_drop, List.getElem?_take]
  rcases j with _ | _ | _ | _ | j
  · rw [if_pos (by omega)]
    simp [List.getD_eq_getElem?_getD, List.getElem?_eq_getElem (show k < l.length by omega)]
  · rw [if_pos (by omega)]
    simp [List.getD_eq_getElem?_getD, List.getElem?_eq_getElem (show k + 1 < l.length by omega)]
  · rw [if_pos (by omega)]
    simp [List.getD_eq_getElem?_getD, List.getElem?_eq_getElem (show k + 2 < l.length by omega)]
  · rw [if_pos (by omega)]
    simp [List.getD_eq_getElem?_getD, List.getElem?_eq_getElem (show k + 3 < l.length by omega)]
  · rw [if_neg (by omega)]
    simp

theorem word_read (s : ByteArray) (g : Nat) (h : 4 * g + 4 ≤ s.size) : fromBe (bytesOf (s.extract (4 * g) (4 * g + 4))).reverse = (wordN (bytesOf s) g : Int) := by
  rw [bytesOf_extract, four _ _ (by rw [bytesOf_length]; exact h)]
  have hl := wordN_lt (bytesOf s) g (bytesOf_lt s)
  unfold wordN at hl ⊢
  rw [fromBe_of]
  · rfl
  · simp
  · simp only [List.reverse_cons, List.reverse_nil, List.nil_append, List.cons_append] at hl ⊢
    omega



theorem results_cell {fn : Func} {p : Tmp} {ty : TypeId} (h : fn.results = #[.cell p ty]) (tmps : Array Value) (P : Program) (w : World) :
    (results fn tmps).run P w = ((asAddr (tmps.getD p undef)).run P w).andThen fun a w₁ => (loadVar ty a).run P w₁ := by
  simp only [results, h]
  simp [Sem.run_bind, Result.andThen]

theorem info_arr : (Tryd.prog.info? 73).map (·.size) = some 4 := by kernel_rfl

theorem block_setCell (w : World) (p i : Nat) (cs : Array Value) (t : TypeId) (u : Value) (h : w.heap[p]? = some (.cells cs t (0, 0))) :
    (w.setCell ⟨p, i, none⟩ u).heap[p]? = some (.cells (cs.setIfInBounds i u) t (0, 0)) := by
  simp only [World.setCell, Array.getElem?_modify, h]
  simp

/-- Four registers as an array's cells. -/
abbrev regV (q : Reg4) : Array Value := #[.int .u32 (q.a.toNat : Int), .int .u32 (q.b.toNat : Int), .int .u32 (q.c.toNat : Int), .int .u32 (q.d.toNat : Int)]

/-- What stays through the loop: the registers as they came, the result's cells, the table. -/
structure Blk (w0 : World) (q : Reg4) (b : Nat) (w : World) : Prop where
  came : w.heap[w0.heap.size]? = some (.cells (regV q) 73 (0, 0))
  out : w.heap[w0.heap.size + 1]? = some (.cells #[.int .u32 0, .int .u32 0, .int .u32 0, .int .u32 0] 73 (0, 0))
  tab : w.heap[b]? = some (.cells (kL.map fun (n : Nat) => Value.int .u32 (n : Int)).toArray 72 (0, 0))
  below : Below w0.heap.size w0 w

theorem Blk.next {w0 w w' : World} {q : Reg4} {b : Nat} (h : Blk w0 q b w) (hB : Below w.heap.size w w') : Blk w0 q b w' :=
  ⟨by rw [hB.block _ (lt_of_block h.came)]; exact h.came, by rw [hB.block _ (lt_of_block h.out)]; exact h.out, by rw [hB.block _ (lt_of_block h.tab)]; exact h.tab, h.below.trans (hB.mono h.below.size)⟩

theorem Blk.kcell {w0 w : World} {q : Reg4} {b : Nat} (h : Blk w0 q b w) (i : Nat) (hi : i < 64) : w.cell? ⟨b, i, none⟩ = some (.int .u32 ((kOf i).toNat : Int)) := by
  rw [cell_of_row _ _ _ _ _ _ h.tab]
  have hl : i < kL.length := hi
  have hk := k_lt i hi
  unfold kOf
  rw [BitVec.toNat_ofNat, Nat.mod_eq_of_lt hk, List.getElem?_toArray, List.getElem?_map, List.getElem?_eq_getElem hl, List.getD_eq_getElem?_getD, List.getElem?_eq_getElem hl]
  rfl

set_option maxRecDepth 20000 in
set_option maxHeartbeats 4000000 in
theorem block_spec (q : Reg4) (s : ByteArray) (hs : s.size = 64) (w : World) :
    Calls Tryd.prog 42 #[.agg (regV q), .string s] w fun e w' => e = .returned (.agg (regV (mblock q (bytesOf s)))) ∧ Below w.heap.size w w' := by
  go_enter Tryd.func42, Tryd.ntmps42
  go_wp2_with fail
  go_quiet (fail)
  go_wp2_with fail
  generalize hwa : ((w.alloc (.cells (regV q) 73)).alloc (.cells #[.int .u32 0, .int .u32 0, .int .u32 0, .int .u32 0] 73)).drewN nq = wa
  refine (table_spec wa).mono ?_
  rintro e w1 ⟨rfl, hw1⟩
  have HG : Hid (Blk w q wa.heap.size w1) := by
    have hs2 : wa.heap.size = w.heap.size + 2 := by rw [← hwa]; simp [World.drewN]
    have h0 : wa.heap[w.heap.size]? = some (.cells (regV q) 73 (0, 0)) := by
      rw [← hwa]
      show ((w.alloc _).alloc _).heap[w.heap.size]? = _
      rw [Below.heap_alloc _ _ _ (by simp)]
      exact heap_alloc_new _ _
    have h1 : wa.heap[w.heap.size + 1]? = some (.cells #[.int .u32 0, .int .u32 0, .int .u32 0, .int .u32 0] 73 (0, 0)) := by
      rw [← hwa]
      have h := heap_alloc_new (w.alloc (.cells (regV q) 73)) (.cells #[.int .u32 0, .int .u32 0, .int .u32 0, .int .u32 0] 73)
      have e : (w.alloc (.cells (regV q) 73)).heap.size = w.heap.size + 1 := by simp
      rw [e] at h
      exact h
    have hB : Below w.heap.size w wa := by
      rw [← hwa]
      have h := ((Below.refl w.heap.size w).alloc (Nat.le_refl _) (.cells (regV q) 73)).alloc (by simp) (.cells #[.int .u32 0, .int .u32 0, .int .u32 0, .int .u32 0] 73)
      exact ⟨h.os, h.tape, h.output, h.size, h.block⟩
    rw [hw1]
    exact ⟨by rw [Below.heap_alloc _ _ _ (by omega)]; exact h0, by rw [Below.heap_alloc _ _ _ (by omega)]; exact h1, heap_alloc_new _ _, hB.alloc (by omega) _⟩
  clear hw1 hwa
  generalize wa.heap.size = b at *
  clear wa
  go_wp2_with fail
  go_loopw [5, 6, 7, 8, 10] (fun ua ub uc ud ui wr => ∃ (i : Nat) (r : Reg4), i ≤ 64 ∧ r = msteps (word (bytesOf s)) q i ∧ ua = .int .u32 (r.a.toNat : Int) ∧ ub = .int .u32 (r.b.toNat : Int) ∧ uc = .int .u32 (r.c.toNat : Int) ∧ ud = .int .u32 (r.d.toNat : Int) ∧ ui = .int .i64 (i : Int) ∧ Blk w q b wr) (fun _ _ _ _ ui _ => 64 - (intOf ui).toNat)
  case atStart => exact ⟨0, q, Nat.zero_le _, rfl, rfl, rfl, rfl, rfl, rfl, HG.out⟩
  case round =>
    clear HG
    obtain ⟨i, r, hi, hr, rfl, rfl, rfl, rfl, rfl, hg⟩ := hrel
    have HW : Hid (Blk w q b wr) := hg
    clear hg
    by_cases hlt : i < 64
    · have hgl := gOf_lt i hlt
      have hwr := word_read s (gOf i) (by omega)
      have hwl := wordN_lt (bytesOf s) (gOf i) (bytesOf_lt s)
      obtain ⟨ht1, ht2⟩ := turn_range i hlt
      have km := mix_spec i hlt r.b r.c r.d
      have kf := fun w => reffromLe_spec (s.extract (4 * gOf i) (4 * gOf i + 4)) (by rw [ByteArray.size_extract]; omega) w
      rw [hwr] at kf
      have hx : word (bytesOf s) (gOf i) = BitVec.ofNat 32 (wordN (bytesOf s) (gOf i)) := rfl
      have hx2 : (wordN (bytesOf s) (gOf i) : Int) = ((word (bytesOf s) (gOf i)).toNat : Int) := by
        rw [hx, BitVec.toNat_ofNat, Nat.mod_eq_of_lt hwl]
      rw [hx2] at kf
      have e1 : 4 * (gOf i : Int) = ((4 * gOf i : Nat) : Int) := by omega
      have e2 : ((4 * gOf i : Nat) : Int) + 4 = ((4 * gOf i + 4 : Nat) : Int) := by omega
      have l1 : 4 * gOf i ≤ 4 * gOf i + 4 := by omega
      have l2 : 4 * gOf i + 4 ≤ s.size := by omega
      have f1 := m_add r.a (fOf i r.b r.c r.d)
      have f2 := m_add (r.a + fOf i r.b r.c r.d) (kOf i)
      have f3 := m_add (r.a + fOf i r.b r.c r.d + kOf i) (word (bytesOf s) (gOf i))
      have f4 := m_shl (r.a + fOf i r.b r.c r.d + kOf i + word (bytesOf s) (gOf i)) (turnOf i)
      have f5 := m_shr (r.a + fOf i r.b r.c r.d + kOf i + word (bytesOf s) (gOf i)) (32 - turnOf i)
      have f6 := m_or ((r.a + fOf i r.b r.c r.d + kOf i + word (bytesOf s) (gOf i)) <<< turnOf i) ((r.a + fOf i r.b r.c r.d + kOf i + word (bytesOf s) (gOf i)) >>> (32 - turnOf i))
      have f7 := m_add r.b (rot (r.a + fOf i r.b r.c r.d + kOf i + word (bytesOf s) (gOf i)) (turnOf i))
      have HS : Hid (mstep (word (bytesOf s)) r i = msteps (word (bytesOf s)) q (i + 1)) := by
        show _ = _
        rw [hr]
        rfl
      have HKC : Hid (∀ wx, Blk w q b wx → wx.cell? ⟨b, i, none⟩ = some (.int .u32 ((kOf i).toNat : Int))) := fun wx hx => hx.kcell i hlt
      have HE : Hid ((mstep (word (bytesOf s)) r i).b = r.b + rot (r.a + fOf i r.b r.c r.d + kOf i + word (bytesOf s) (gOf i)) (turnOf i)) := rfl
      have hrot : (r.a + fOf i r.b r.c r.d + kOf i + word (bytesOf s) (gOf i)) <<< turnOf i ||| (r.a + fOf i r.b r.c r.d + kOf i + word (bytesOf s) (gOf i)) >>> (32 - turnOf i) = rot (r.a + fOf i r.b r.c r.d + kOf i + word (bytesOf s) (gOf i)) (turnOf i) := rfl
      rw [hrot] at f6
      clear hrot hr hx hx2 hwr
      have lf := lt32' (r.a + fOf i r.b r.c r.d + kOf i + word (bytesOf s) (gOf i))
      have lw := lt32' (word (bytesOf s) (gOf i))
      generalize r.b + rot (r.a + fOf i r.b r.c r.d + kOf i + word (bytesOf s) (gOf i)) (turnOf i) = nb at *
      generalize rot (r.a + fOf i r.b r.c r.d + kOf i + word (bytesOf s) (gOf i)) (turnOf i) = x6 at *
      generalize (r.a + fOf i r.b r.c r.d + kOf i + word (bytesOf s) (gOf i)) <<< turnOf i = x4 at *
      generalize (r.a + fOf i r.b r.c r.d + kOf i + word (bytesOf s) (gOf i)) >>> (32 - turnOf i) = x5 at *
      generalize r.a + fOf i r.b r.c r.d + kOf i + word (bytesOf s) (gOf i) = x3 at *
      generalize r.a + fOf i r.b r.c r.d + kOf i = x2 at *
      generalize r.a + fOf i r.b r.c r.d = x1 at *
      generalize fOf i r.b r.c r.d = ff at *
      generalize kOf i = kk at *
      have HF7 : Hid (((r.b.toNat : Int) + (x6.toNat : Int)) % 4294967296 = (nb.toNat : Int)) := f7
      clear f7
      generalize word (bytesOf s) (gOf i) = ww at *
      generalize 4 * gOf i + 4 = hi' at *
      generalize 4 * gOf i = lo at *
      have hsl := slice_run s lo hi' l1 l2
      go_wp2_with fail
      refine (km wr).mono ?_
      rintro e w2 ⟨rfl, hw2⟩
      rw [hw2]
      clear hw2
      go_wp2_with fail
      refine (kf wr).mono ?_
      rintro e w3 ⟨rfl, hB⟩
      have HW3 : Hid (Blk w q b w3) := HW.out.next hB
      clear hB
      have kc3 := HKC.out w3 HW3.out
      go_wp2_with fail
      refine (turns_spec i hlt w3).mono ?_
      rintro e w4 ⟨rfl, hB⟩
      have HW4 : Hid (Blk w q b w4) := HW3.out.next hB
      clear hB
      generalize turnOf i = tt at *
      go_wp2_with fail
      go_roundw
      case rel => exact ⟨i + 1, _, by omega, HS.out, rfl, by rw [HE.out, HF7.out], rfl, rfl, by go_num, HW4.out⟩
      case measure => simp [intOf]; omega
    · have h64 : i = 64 := by omega
      have HR : Hid (mblock q (bytesOf s) = ⟨q.a + r.a, q.b + r.b, q.c + r.c, q.d + r.d⟩) := by
        show _ = _
        rw [hr, h64]
        rfl
      clear hr h64
      have f1 := m_add q.a r.a
      have f2 := m_add q.b r.b
      have f3 := m_add q.c r.c
      have f4 := m_add q.d r.d
      have c0 : wr.cell? ⟨w.heap.size, 0, none⟩ = some (.int .u32 (q.a.toNat : Int)) := by rw [cell_of_row _ _ _ _ _ _ HW.out.came]; rfl
      have c1 : wr.cell? ⟨w.heap.size, 1, none⟩ = some (.int .u32 (q.b.toNat : Int)) := by rw [cell_of_row _ _ _ _ _ _ HW.out.came]; rfl
      have c2 : wr.cell? ⟨w.heap.size, 2, none⟩ = some (.int .u32 (q.c.toNat : Int)) := by rw [cell_of_row _ _ _ _ _ _ HW.out.came]; rfl
      have c3 : wr.cell? ⟨w.heap.size, 3, none⟩ = some (.int .u32 (q.d.toNat : Int)) := by rw [cell_of_row _ _ _ _ _ _ HW.out.came]; rfl
      generalize q.a + r.a = s1 at *
      generalize q.b + r.b = s2 at *
      generalize q.c + r.c = s3 at *
      generalize q.d + r.d = s4 at *
      have o0 : wr.cell? ⟨w.heap.size + 1, 0, none⟩ = some (.int .u32 0) := by rw [cell_of_row _ _ _ _ _ _ HW.out.out]; rfl
      have o1 : wr.cell? ⟨w.heap.size + 1, 1, none⟩ = some (.int .u32 0) := by rw [cell_of_row _ _ _ _ _ _ HW.out.out]; rfl
      have o2 : wr.cell? ⟨w.heap.size + 1, 2, none⟩ = some (.int .u32 0) := by rw [cell_of_row _ _ _ _ _ _ HW.out.out]; rfl
      have o3 : wr.cell? ⟨w.heap.size + 1, 3, none⟩ = some (.int .u32 0) := by rw [cell_of_row _ _ _ _ _ _ HW.out.out]; rfl
      have z0 : wr.frozen? ⟨w.heap.size + 1, 0, none⟩ = false := by simp [World.frozen?, HW.out.out]
      have z1 : wr.frozen? ⟨w.heap.size + 1, 1, none⟩ = false := by simp [World.frozen?, HW.out.out]
      have z2 : wr.frozen? ⟨w.heap.size + 1, 2, none⟩ = false := by simp [World.frozen?, HW.out.out]
      have z3 : wr.frozen? ⟨w.heap.size + 1, 3, none⟩ = false := by simp [World.frozen?, HW.out.out]
      go_wp2
      generalize hwf : (((wr.setCell ⟨w.heap.size + 1, 0, none⟩ (.int .u32 (s1.toNat : Int))).setCell ⟨w.heap.size + 1, 1, none⟩ (.int .u32 (s2.toNat : Int))).setCell ⟨w.heap.size + 1, 2, none⟩ (.int .u32 (s3.toNat : Int))).setCell ⟨w.heap.size + 1, 3, none⟩ (.int .u32 (s4.toNat : Int)) = wf
      have hrow : wf.heap[w.heap.size + 1]? = some (.cells (regV ⟨s1, s2, s3, s4⟩) 73 (0, 0)) := by
        rw [← hwf, block_setCell _ _ _ _ _ _ (block_setCell _ _ _ _ _ _ (block_setCell _ _ _ _ _ _ (block_setCell _ _ _ _ _ _ HW.out.out)))]
        rfl
      have hbel : Below w.heap.size w wf := by
        rw [← hwf]
        exact (((HW.out.below.setCell (by simp) _).setCell (by simp) _).setCell (by simp) _).setCell (by simp) _
      refine bodyPost_ret (v := .agg (regV ⟨s1, s2, s3, s4⟩)) ?_ rfl ⟨by rw [HR.out], hbel⟩
      rw [results_cell rfl]
      have hld := run_loadVar_row (P := Tryd.prog) wf (w.heap.size + 1) 73 73 (regV ⟨s1, s2, s3, s4⟩) (0, 0) _ hrow Tryd.underlying73 rfl info_arr
      simp [asAddr, Result.andThen, hld]

end Go.Proofs.YtolmijpecomkcaaDoor
