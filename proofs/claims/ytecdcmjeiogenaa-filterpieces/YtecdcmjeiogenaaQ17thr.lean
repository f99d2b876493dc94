/- Own text: lists through a chain of the program's. -/
import Derived.Test.YtecdcmjeiogenaaQ17are
import Derived.Test.YtecdcmjeiogenaaQ17fwd
import Derived.Test.YtecdcmjeiogenaaQ17inv
namespace Go.Proofs.Ytecdcmjeiogenaa
open Go.RowKit
set_option linter.unusedSimpArgs false
set_option linter.unusedVariables false

/-- A row of numbers: the block of cells that it is alone in. -/
def IB (w : World) (b : Nat) (L : List Int) : Prop := w.heap[b]? = some (.cells (intsC L).toArray 3 (0, 0))
section
variable {w w' : World} {b : Nat} {L : List Int}
theorem intsC_at (L : List Int) (j : Nat) (hj : j < L.length) : (intsC L).toArray[j]? = some (.int .i64 (L.getD j 0)) := by
  rw [List.getElem?_toArray]
  unfold intsC
  rw [List.getElem?_map, List.getElem?_eq_getElem hj, List.getD_eq_getElem?_getD, List.getElem?_eq_getElem hj]
  rfl
theorem IB.c (h : IB w b L) (j : Nat) (hj : j < L.length) : w.cell? ⟨b, j, none⟩ = some (.int .i64 (L.getD j 0)) := by
  rw [cell_row h]; exact intsC_at L j hj
theorem IB.fz (h : IB w b L) (j : Nat) : w.frozen? ⟨b, j, none⟩ = false := fz_of h j
theorem IB.lt (h : IB w b L) : b < w.heap.size := lt_of_block h
theorem IB.keep (h : IB w b L) (he : w'.heap[b]? = w.heap[b]?) : IB w' b L := he.trans h
theorem IB.set (h : IB w b L) (j : Nat) (v : Int) : IB (w.setCell ⟨b, j, none⟩ (.int .i64 v)) b (L.set j v) := by
  have hs := heap_setCell_same w b j _ _ (Value.int .i64 v) h
  unfold IB
  rw [hs]
  congr 2
  unfold intsC
  rw [List.setIfInBounds_toArray, List.map_set]
theorem IB.ints (h : IB w b L) (hl : L.length ≤ 17592186044415) (hn : ∀ n ∈ L, -9223372036854775808 ≤ n ∧ n ≤ 9223372036854775807) : IntsAt w (some ⟨b, 0, none⟩) L := by
  refine ⟨hl, hn, fun _ => ⟨b, 0, rfl, fun j hj => ?_⟩⟩
  rw [Nat.zero_add]; exact h.c j hj
end
theorem made_ints (n : Nat) : madeCells #[.int .i64 0] n = (intsC (List.replicate n 0)).toArray := by
  have hr0 : intsC (List.replicate n 0) = List.replicate n (Value.int .i64 0) := by simp [intsC]
  rw [hr0]
  apply Array.ext_getElem?
  intro j
  have hr : (List.replicate n (Value.int .i64 0)).toArray[j]? = if j < n then some (Value.int .i64 0) else none := by
    rw [List.getElem?_toArray, List.getElem?_replicate]
  rw [hr]
  by_cases hj : j < n
  · rw [if_pos hj]
    simp only [madeCells, Array.getElem?_map, Array.getElem?_range, hj, if_true, Option.map_some]
    have hs1 : (#[.int .i64 0] : Array Value).size = 1 := rfl
    rw [hs1, Nat.mod_one]
    rfl
  · rw [if_neg hj, Array.getElem?_eq_none (by rw [size_madeCells]; omega)]
theorem make_row (n : Nat) (hn : n ≤ 17592186044415) (w : World) : (Instr.makeSlice 22 (.int .i64 (n : Int)) (.int .i64 (n : Int))).run Try.prog w = .ok (.slice (some ⟨w.heap.size, 0, none⟩) n n) (w.alloc (.cells (intsC (List.replicate n 0)).toArray 3)) := by
  rw [← made_ints]; exact make_ints n hn w
theorem IB.new (w : World) (L : List Int) : IB (w.alloc (.cells (intsC L).toArray 3)) w.heap.size L := heap_alloc_new _ _
theorem set_at (A : List Int) (m : Nat) (v : Int) (h : 0 < m) : (A ++ List.replicate m 0).set A.length v = (A ++ [v]) ++ List.replicate (m - 1) 0 := by
  obtain ⟨m, rfl⟩ : ∃ k, m = k + 1 := ⟨m - 1, by omega⟩
  rw [List.replicate_succ, Nat.add_sub_cancel]
  clear h
  induction A with
  | nil => rfl
  | cons a A ih => simp only [List.cons_append, List.length_cons, List.set_cons_succ, ih]
attribute [local go_sem] Oper.semAt_some

set_option maxRecDepth 20000 in
set_option maxHeartbeats 1600000 in
theorem p_thr_nil_cf (l : List Int) (lo : Option Addr) (lc : Nat) (w : World) : Calls Try.prog 24 #[.pointer none, .func (Fn.func 20) #[.pointer none] #[], .slice lo l.length lc] w fun e w' => e = .returned (.tuple #[.slice none 0 0, .int .i64 1]) ∧ w' = w := by
  go_enter Try.func24, Try.ntmps24
  go_wp2_with fail
  go_ret2
  exact ⟨rfl, rfl⟩
set_option maxRecDepth 20000 in
set_option maxHeartbeats 1600000 in
theorem p_thr_bad_cf (p : Addr) (l : List Int) (lo : Option Addr) (lc : Nat) (w : World) (h : IntsAt w lo l) (hb : ¬ ∀ x ∈ l, In32 x) : Calls Try.prog 24 #[.pointer (some p), .func (Fn.func 20) #[.pointer (some p)] #[], .slice lo l.length lc] w fun e w' => e = .returned (.tuple #[.slice none 0 0, .int .i64 1]) ∧ w' = w := by
  have HL := hid h
  have HB := hid (decide_eq_false hb)
  clear h hb
  go_enter Try.func24, Try.ntmps24
  go_wp2_with fail
  refine (p_are l lo lc w HL.out).mono ?_
  rintro e w2 ⟨rfl, rfl⟩
  rw [HB.out]
  go_wp2_with fail
  go_ret2
  exact ⟨rfl, rfl⟩
set_option maxRecDepth 20000 in
set_option maxHeartbeats 3200000 in
theorem p_thr_cf (p : Addr) (fp : Nat → Prop) (c : List Stp) (l : List Int) (lo : Option Addr) (lc : Nat) (w : World) (h : ∀ w', Stays fp w w' → IntsAt w' lo l) (ha : ∀ x ∈ l, In32 x) (hp : VCh w p fp c) (hf : ∀ k, fp k → k < w.heap.size) : Calls Try.prog 24 #[.pointer (some p), .func (Fn.func 20) #[.pointer (some p)] #[], .slice lo l.length lc] w fun e w' => ∃ la lc, e = .returned (.tuple #[.slice la (runC false c l).length lc, .int .i64 0]) ∧ IntsAt w' la (runC false c l) ∧ (runC false c l).length ≤ lc ∧ Stays fp w w' := by
  have HL := hid h
  have hm : l.length ≤ 17592186044415 := (h w (Stays.refl _ _)).len
  have HB := hid (decide_eq_true ha)
  have HP := hid hp
  have HF := hid hf
  clear h ha hp hf
  go_enter Try.func24, Try.ntmps24
  go_wp2_with fail
  refine (p_are l lo lc w (HL.out w (Stays.refl _ _))).mono ?_
  rintro e w2 ⟨rfl, rfl⟩
  rw [HB.out]
  have hmk := make_row l.length hm w2
  go_upto_region 4 with fail
  clear hmk
  have HN : Hid (IB (w2.alloc (.cells (intsC (List.replicate l.length 0)).toArray 3)) w2.heap.size (List.replicate l.length 0)) := IB.new _ _
  have HV : Hid (VCh (w2.alloc (.cells (intsC (List.replicate l.length 0)).toArray 3)) p (fun k => fp k ∨ (w2.heap.size < k ∧ k < (w2.alloc (.cells (intsC (List.replicate l.length 0)).toArray 3)).heap.size)) c) := by
    obtain ⟨pc, ao, cap, Q, e, h1⟩ := HP.out
    exact ⟨pc, ao, cap, Q, e, h1.keep (fun k hk _ => (below_new _ _).block k hk) (fun k q => .inl q)⟩
  have HS : Hid (Stays fp w2 (w2.alloc (.cells (intsC (List.replicate l.length 0)).toArray 3))) := Stays.of_below (below_new _ _) _
  generalize w2.alloc (.cells (intsC (List.replicate l.length 0)).toArray 3) = w3 at *
  go_wp2_with fail
  go_loopw [9, 10, 23] (fun _ _ sk wr => ∃ k : Nat, k ≤ l.length ∧ sk = .int .i64 (k : Int) ∧ IB wr w2.heap.size (runC false c (l.take k) ++ List.replicate (l.length - k) 0) ∧ VCh wr p (fun k => fp k ∨ (w2.heap.size < k ∧ k < wr.heap.size)) (aftC false c (l.take k)) ∧ Stays fp w2 wr) (fun _ _ sk _ => l.length - (intOf sk).toNat)
  case atStart => exact ⟨0, Nat.zero_le _, rfl, HN.out, HV.out, HS.out⟩
  case round =>
    clear HN HV HS
    obtain ⟨k, hk, rfl, h1, h2, h3⟩ := hrel
    have H1 := hid h1
    have H2 := hid h2
    have H3 := hid h3
    have HI := hid (HL.out wr h3)
    clear h1 h2 h3
    by_cases hlt : k < l.length
    · obtain ⟨b, off, rfl, r0⟩ := HI.out.at k hlt
      have r1 := r0 wr (Below.refl _ _)
      clear r0
      have HT : Hid (l.take (k + 1) = l.take k ++ [l.getD k 0]) := take_snoc l k hlt
      generalize l.getD k 0 = x at *
      obtain ⟨pc, ao, cap, Q, rfl, hpc⟩ := H2.out
      have HQ := hid hpc
      clear hpc
      go_wp2_with fail
      refine (p_cf HQ.out x).mono ?_
      rintro e w5 ⟨rfl, hc5, hs5⟩
      have HG : Hid (In32 (goC false (aftC false c (l.take k)) x).1 ∧ runC false c (l.take (k + 1)) = runC false c (l.take k) ++ [(goC false (aftC false c (l.take k)) x).1] ∧ aftC false c (l.take (k + 1)) = (goC false (aftC false c (l.take k)) x).2) := ⟨goC_in _ _ _, by rw [HT.out, runC_snoc], by rw [HT.out, aftC_snoc]⟩
      have H5 : Hid (IB w5 w2.heap.size (runC false c (l.take k) ++ List.replicate (l.length - k) 0) ∧ PChn w5 (fun k => fp k ∨ (w2.heap.size < k ∧ k < w5.heap.size)) pc ao cap Q (goC false (aftC false c (l.take k)) x).2 ∧ Stays fp w2 w5) := by
        have l1 := H1.out.lt
        have l2 := H3.out.size
        have l3 := hs5.size
        refine ⟨H1.out.keep (hs5.block _ l1 (fun q => ?_)), hc5.keep (fun _ _ _ => rfl) (fun j q => ?_), H3.out.trans hs5 (fun j hj q => ?_)⟩
        · rcases q with q | q
          · have := HF.out _ q; omega
          · omega
        · rcases q with (q | q) | q
          · exact .inl q
          · exact .inr (by omega)
          · exact .inr (by omega)
        · rcases q with q | q
          · exact q
          · omega
      clear hc5 hs5 HQ H1 H3
      generalize (goC false (aftC false c (l.take k)) x).2 = c5 at *
      generalize (goC false (aftC false c (l.take k)) x).1 = y at *
      have HLK : Hid ((runC false c (l.take k)).length = k) := by show _ = _; rw [runC_len, List.length_take]; omega
      have r5 := H5.out.1.c k (by rw [List.length_append, HLK.out, List.length_replicate]; omega)
      have f5 := H5.out.1.fz k
      go_wp2_with fail
      go_roundw
      case rel =>
        have hset := H5.out.1.set k y
        have hlk := HLK.out
        have he := set_at (runC false c (l.take k)) (l.length - k) y (by omega)
        rw [hlk] at he
        rw [he] at hset
        refine ⟨k + 1, by omega, by go_num, ?_, ⟨pc, ao, cap, Q, rfl, ?_⟩, H5.out.2.2.setCell _ _ (.inr (Nat.le_refl _))⟩
        · rw [HG.out.2.1, ← Nat.sub_sub]; exact hset
        · rw [HG.out.2.2]
          refine H5.out.2.1.keep (fun j hj q => Below.heap_setCell _ _ _ j (fun e => ?_)) (fun j q => ?_)
          · have e : j = w2.heap.size := e
            subst e
            rcases q with q | q
            · have := HF.out _ q; omega
            · omega
          · rcases q with q | q
            · exact .inl q
            · exact .inr (by simpa using q)
      case measure => simp [intOf]; omega
    · have hke : k = l.length := by omega
      subst hke
      have HE : Hid (IB wr w2.heap.size (runC false c l)) := by
        have := H1.out
        rw [List.take_length, Nat.sub_self, List.replicate_zero, List.append_nil] at this
        exact this
      clear H1 H2
      go_wp2_with fail
      go_ret2
      refine ⟨some ⟨w2.heap.size, 0, none⟩, l.length, by rw [runC_len]; rfl, HE.out.ints (by rw [runC_len]; exact hm) (fun n hn => ?_), by rw [runC_len]; exact Nat.le_refl _, H3.out⟩
      have := runC_in false c l n hn
      unfold In32 at this
      omega

set_option maxRecDepth 20000 in
set_option maxHeartbeats 1600000 in
theorem p_thr_nil_ci (l : List Int) (lo : Option Addr) (lc : Nat) (w : World) : Calls Try.prog 24 #[.pointer none, .func (Fn.func 21) #[.pointer none] #[], .slice lo l.length lc] w fun e w' => e = .returned (.tuple #[.slice none 0 0, .int .i64 1]) ∧ w' = w := by
  go_enter Try.func24, Try.ntmps24
  go_wp2_with fail
  go_ret2
  exact ⟨rfl, rfl⟩
set_option maxRecDepth 20000 in
set_option maxHeartbeats 1600000 in
theorem p_thr_bad_ci (p : Addr) (l : List Int) (lo : Option Addr) (lc : Nat) (w : World) (h : IntsAt w lo l) (hb : ¬ ∀ x ∈ l, In32 x) : Calls Try.prog 24 #[.pointer (some p), .func (Fn.func 21) #[.pointer (some p)] #[], .slice lo l.length lc] w fun e w' => e = .returned (.tuple #[.slice none 0 0, .int .i64 1]) ∧ w' = w := by
  have HL := hid h
  have HB := hid (decide_eq_false hb)
  clear h hb
  go_enter Try.func24, Try.ntmps24
  go_wp2_with fail
  refine (p_are l lo lc w HL.out).mono ?_
  rintro e w2 ⟨rfl, rfl⟩
  rw [HB.out]
  go_wp2_with fail
  go_ret2
  exact ⟨rfl, rfl⟩
set_option maxRecDepth 20000 in
set_option maxHeartbeats 3200000 in
theorem p_thr_ci (p : Addr) (fp : Nat → Prop) (c : List Stp) (l : List Int) (lo : Option Addr) (lc : Nat) (w : World) (h : ∀ w', Stays fp w w' → IntsAt w' lo l) (ha : ∀ x ∈ l, In32 x) (hp : VCh w p fp c) (hf : ∀ k, fp k → k < w.heap.size) : Calls Try.prog 24 #[.pointer (some p), .func (Fn.func 21) #[.pointer (some p)] #[], .slice lo l.length lc] w fun e w' => ∃ la lc, e = .returned (.tuple #[.slice la (runC true c l).length lc, .int .i64 0]) ∧ IntsAt w' la (runC true c l) ∧ (runC true c l).length ≤ lc ∧ Stays fp w w' := by
  have HL := hid h
  have hm : l.length ≤ 17592186044415 := (h w (Stays.refl _ _)).len
  have HB := hid (decide_eq_true ha)
  have HP := hid hp
  have HF := hid hf
  clear h ha hp hf
  go_enter Try.func24, Try.ntmps24
  go_wp2_with fail
  refine (p_are l lo lc w (HL.out w (Stays.refl _ _))).mono ?_
  rintro e w2 ⟨rfl, rfl⟩
  rw [HB.out]
  have hmk := make_row l.length hm w2
  go_upto_region 4 with fail
  clear hmk
  have HN : Hid (IB (w2.alloc (.cells (intsC (List.replicate l.length 0)).toArray 3)) w2.heap.size (List.replicate l.length 0)) := IB.new _ _
  have HV : Hid (VCh (w2.alloc (.cells (intsC (List.replicate l.length 0)).toArray 3)) p (fun k => fp k ∨ (w2.heap.size < k ∧ k < (w2.alloc (.cells (intsC (List.replicate l.length 0)).toArray 3)).heap.size)) c) := by
    obtain ⟨pc, ao, cap, Q, e, h1⟩ := HP.out
    exact ⟨pc, ao, cap, Q, e, h1.keep (fun k hk _ => (below_new _ _).block k hk) (fun k q => .inl q)⟩
  have HS : Hid (Stays fp w2 (w2.alloc (.cells (intsC (List.replicate l.length 0)).toArray 3))) := Stays.of_below (below_new _ _) _
  generalize w2.alloc (.cells (intsC (List.replicate l.length 0)).toArray 3) = w3 at *
  go_wp2_with fail
  go_loopw [9, 10, 23] (fun _ _ sk wr => ∃ k : Nat, k ≤ l.length ∧ sk = .int .i64 (k : Int) ∧ IB wr w2.heap.size (runC true c (l.take k) ++ List.replicate (l.length - k) 0) ∧ VCh wr p (fun k => fp k ∨ (w2.heap.size < k ∧ k < wr.heap.size)) (aftC true c (l.take k)) ∧ Stays fp w2 wr) (fun _ _ sk _ => l.length - (intOf sk).toNat)
  case atStart => exact ⟨0, Nat.zero_le _, rfl, HN.out, HV.out, HS.out⟩
  case round =>
    clear HN HV HS
    obtain ⟨k, hk, rfl, h1, h2, h3⟩ := hrel
    have H1 := hid h1
    have H2 := hid h2
    have H3 := hid h3
    have HI := hid (HL.out wr h3)
    clear h1 h2 h3
    by_cases hlt : k < l.length
    · obtain ⟨b, off, rfl, r0⟩ := HI.out.at k hlt
      have r1 := r0 wr (Below.refl _ _)
      clear r0
      have HT : Hid (l.take (k + 1) = l.take k ++ [l.getD k 0]) := take_snoc l k hlt
      generalize l.getD k 0 = x at *
      obtain ⟨pc, ao, cap, Q, rfl, hpc⟩ := H2.out
      have HQ := hid hpc
      clear hpc
      go_wp2_with fail
      refine (p_ci HQ.out x).mono ?_
      rintro e w5 ⟨rfl, hc5, hs5⟩
      have HG : Hid (In32 (goC true (aftC true c (l.take k)) x).1 ∧ runC true c (l.take (k + 1)) = runC true c (l.take k) ++ [(goC true (aftC true c (l.take k)) x).1] ∧ aftC true c (l.take (k + 1)) = (goC true (aftC true c (l.take k)) x).2) := ⟨goC_in _ _ _, by rw [HT.out, runC_snoc], by rw [HT.out, aftC_snoc]⟩
      have H5 : Hid (IB w5 w2.heap.size (runC true c (l.take k) ++ List.replicate (l.length - k) 0) ∧ PChn w5 (fun k => fp k ∨ (w2.heap.size < k ∧ k < w5.heap.size)) pc ao cap Q (goC true (aftC true c (l.take k)) x).2 ∧ Stays fp w2 w5) := by
        have l1 := H1.out.lt
        have l2 := H3.out.size
        have l3 := hs5.size
        refine ⟨H1.out.keep (hs5.block _ l1 (fun q => ?_)), hc5.keep (fun _ _ _ => rfl) (fun j q => ?_), H3.out.trans hs5 (fun j hj q => ?_)⟩
        · rcases q with q | q
          · have := HF.out _ q; omega
          · omega
        · rcases q with (q | q) | q
          · exact .inl q
          · exact .inr (by omega)
          · exact .inr (by omega)
        · rcases q with q | q
          · exact q
          · omega
      clear hc5 hs5 HQ H1 H3
      generalize (goC true (aftC true c (l.take k)) x).2 = c5 at *
      generalize (goC true (aftC true c (l.take k)) x).1 = y at *
      have HLK : Hid ((runC true c (l.take k)).length = k) := by show _ = _; rw [runC_len, List.length_take]; omega
      have r5 := H5.out.1.c k (by rw [List.length_append, HLK.out, List.length_replicate]; omega)
      have f5 := H5.out.1.fz k
      go_wp2_with fail
      go_roundw
      case rel =>
        have hset := H5.out.1.set k y
        have hlk := HLK.out
        have he := set_at (runC true c (l.take k)) (l.length - k) y (by omega)
        rw [hlk] at he
        rw [he] at hset
        refine ⟨k + 1, by omega, by go_num, ?_, ⟨pc, ao, cap, Q, rfl, ?_⟩, H5.out.2.2.setCell _ _ (.inr (Nat.le_refl _))⟩
        · rw [HG.out.2.1, ← Nat.sub_sub]; exact hset
        · rw [HG.out.2.2]
          refine H5.out.2.1.keep (fun j hj q => Below.heap_setCell _ _ _ j (fun e => ?_)) (fun j q => ?_)
          · have e : j = w2.heap.size := e
            subst e
            rcases q with q | q
            · have := HF.out _ q; omega
            · omega
          · rcases q with q | q
            · exact .inl q
            · exact .inr (by simpa using q)
      case measure => simp [intOf]; omega
    · have hke : k = l.length := by omega
      subst hke
      have HE : Hid (IB wr w2.heap.size (runC true c l)) := by
        have := H1.out
        rw [List.take_length, Nat.sub_self, List.replicate_zero, List.append_nil] at this
        exact this
      clear H1 H2
      go_wp2_with fail
      go_ret2
      refine ⟨some ⟨w2.heap.size, 0, none⟩, l.length, by rw [runC_len]; rfl, HE.out.ints (by rw [runC_len]; exact hm) (fun n hn => ?_), by rw [runC_len]; exact Nat.le_refl _, H3.out⟩
      have := runC_in true c l n hn
      unfold In32 at this
      omega

end Go.Proofs.Ytecdcmjeiogenaa
