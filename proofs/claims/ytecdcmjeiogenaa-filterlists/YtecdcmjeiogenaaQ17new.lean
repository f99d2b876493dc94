/- Own text: the program's New. -/
import Derived.Test.YtecdcmjeiogenaaQ17nt
import Derived.Test.YtecdcmjeiogenaaQ17chn
import Derived.Test.YtecdcmjeiogenaaQ17does
namespace Go.Proofs.Ytecdcmjeiogenaa
open Go.RowKit
set_option linter.unusedSimpArgs false
set_option linter.unusedVariables false

/-- A chain in new memory. -/
theorem PChn.new {w0 w : World} {pc br cap tb : Nat} {Q : List Dsc} {c : List Stp} (hlen : c.length = Q.length) (few : Q.length ≤ 1000) (box : w.heap[pc]? = some (.cells #[.slice (some ⟨br, 0, none⟩) Q.length cap] 47 (0, 0))) (row : w.heap[br]? = some (.cells (Q.map Dsc.val).toArray tb (0, 0)))
    (stp : ∀ (i : Nat) (d : Dsc) (s : Stp), Q[i]? = some d → c[i]? = some s → DAt w d s) (lo : ∀ k ∈ owL Q, w0.heap.size ≤ k) (nd : (owL Q).Nodup) (npc : pc ∉ owL Q) (nbr : br ∉ owL Q) (hpc : w0.heap.size ≤ pc) (hbr : w0.heap.size ≤ br) (ok : ChnG c) :
    PChn w (fun k => w0.heap.size ≤ k ∧ k < w.heap.size) pc (some ⟨br, 0, none⟩) cap Q c := by
  refine ⟨hlen, few, ⟨box⟩, ⟨hpc, lt_of_block box⟩, fun i d hi => ⟨br, rfl, ⟨hbr, lt_of_block row⟩, nbr, ?_⟩, fun i d s hi hs => ⟨stp i d s hi hs, fun k hk => ⟨lo k (owL_mem hi hk), (stp i d s hi hs).lt k hk⟩⟩, nd, npc, ok⟩
  rw [cell_row row, List.getElem?_toArray, List.getElem?_map, hi]
  rfl
theorem PChn.empty {w0 w : World} {pc : Nat} (box : w.heap[pc]? = some (.cells #[noS] 47 (0, 0))) (hpc : w0.heap.size ≤ pc) : PChn w (fun k => w0.heap.size ≤ k ∧ k < w.heap.size) pc none 0 [] [] :=
  ⟨rfl, by simp, ⟨box⟩, ⟨hpc, lt_of_block box⟩, fun i d hi => by simp at hi, fun i d s hi => by simp at hi, by simp [owL], by simp [owL], fun s hs => by simp at hs⟩
theorem LastAt.new {w : World} {g : Nat} (h : w.heap[g]? = some (.cells #[.int .i64 0] 50 (0, 0))) : LastAt w g (newS 0) := ⟨rfl, rfl, ⟨h⟩⟩
theorem newS_good {n : Nat} (h : n ≤ 32) : ∃ t, t ≤ 32 ∧ StpOk t (newS n) := ⟨n, h, newS_ok n⟩
theorem good2 {a b : Stp} (h1 : ∃ t, t ≤ 32 ∧ StpOk t a) (h2 : ∃ t, t ≤ 32 ∧ StpOk t b) : ChnG [a, b] := by
  intro s hs
  simp only [List.mem_cons, List.not_mem_nil, or_false] at hs
  rcases hs with rfl | rfl
  · exact h1
  · exact h2
theorem good3 {a b c : Stp} (h1 : ∃ t, t ≤ 32 ∧ StpOk t a) (h2 : ∃ t, t ≤ 32 ∧ StpOk t b) (h3 : ∃ t, t ≤ 32 ∧ StpOk t c) : ChnG [a, b, c] := by
  intro s hs
  simp only [List.mem_cons, List.not_mem_nil, or_false] at hs
  rcases hs with rfl | rfl | rfl
  · exact h1
  · exact h2
  · exact h3
attribute [local go_sem] Oper.semAt_some
set_option maxRecDepth 20000 in
set_option maxHeartbeats 1600000 in
theorem p_new_no (level : Int) (h : newC level = none) (w : World) : Calls Try.prog 18 #[.int .i64 level] w fun e w' => e = .returned (.pointer none) ∧ Below w.heap.size w w' := by
  have h3 : level ≠ 0 ∧ level ≠ 1 ∧ level ≠ 2 := by
    unfold newC at h
    refine ⟨?_, ?_, ?_⟩ <;> (intro e; subst e; simp at h)
  obtain ⟨h0, h1, h2⟩ := h3
  clear h
  go_enter Try.func18, Try.ntmps18
  go_wp2_with fail
  go_ret
  exact ⟨rfl, Below.refl _ _⟩
set_option maxRecDepth 20000 in
set_option maxHeartbeats 1600000 in
theorem p_new0 (w : World) : Calls Try.prog 18 #[.int .i64 0] w (NewQ VCh w []) := by
  go_enter Try.func18, Try.ntmps18
  go_wp2_with fail
  go_ret
  exact ⟨_, _, rfl, ⟨_, _, _, _, rfl, PChn.empty (w0 := w) (heap_alloc_new _ _) (Nat.le_refl _)⟩, fun k q => q, below_new _ _⟩
set_option maxRecDepth 20000 in
set_option maxHeartbeats 3200000 in
theorem p_new1 (w : World) : Calls Try.prog 18 #[.int .i64 1] w (NewQ VCh w [newS 0, newS 16]) := by
  go_enter Try.func18, Try.ntmps18
  go_wp2_with fail
  generalize hw1 : World.alloc w _ = w1
  have H1 : Hid (LastAt w1 w.heap.size (newS 0) ∧ Below w.heap.size w w1 ∧ w.heap.size < w1.heap.size) := by
    rw [← hw1]; exact ⟨LastAt.new (heap_alloc_new _ _), below_new _ _, by simp⟩
  clear hw1
  refine (p_newTaps 16 (by omega) (by omega) w1).mono ?_
  rintro e w2 ⟨g, bw, bn, bp, rfl, ht, l1, l2, l3, l4, hb⟩
  have H2 : Hid (LastAt w2 w.heap.size (newS 0) ∧ TapAt w2 g bw bn bp (newS 16) ∧ w1.heap.size ≤ g ∧ w1.heap.size ≤ bw ∧ w1.heap.size ≤ bn ∧ w1.heap.size ≤ bp ∧ Below w.heap.size w w2) := ⟨H1.out.1.keep (hb.block _ H1.out.1.box.lt), ht, l1, l2, l3, l4, below_on H1.out.2.1 H1.out.2.1.size hb⟩
  clear ht l1 l2 l3 l4 hb
  go_wp2_with fail
  have HL : Hid (Below w.heap.size w w2 ∧ w.heap.size < g ∧ w.heap.size < bw ∧ w.heap.size < bn ∧ w.heap.size < bp ∧ g < w2.heap.size ∧ bw < w2.heap.size ∧ bn < w2.heap.size ∧ bp < w2.heap.size ∧ w.heap.size < w2.heap.size ∧ [g, bw, bn, bp].Nodup) := by
    obtain ⟨_, h2, m1, m2, m3, m4, m5⟩ := H2.out
    have h1 := H1.out.2.2
    have a1 := h2.box.lt
    have a2 := h2.wts.lt
    have a3 := h2.nums.lt
    have a4 := h2.pulls.lt
    exact ⟨m5, by omega, by omega, by omega, by omega, a1, a2, a3, a4, by omega, h2.nd⟩
  have HH := H2
  go_ret
  have hA := heap_two w2 (.cells #[.iface 48 (.pointer (some ⟨w.heap.size, 0, none⟩)), .iface 51 (.pointer (some ⟨g, 0, none⟩))] 61) (.cells #[.slice (some ⟨w2.heap.size, 0, none⟩) 2 2] 47)
  have e1 : (w2.alloc (.cells #[.iface 48 (.pointer (some ⟨w.heap.size, 0, none⟩)), .iface 51 (.pointer (some ⟨g, 0, none⟩))] 61)).heap.size = w2.heap.size + 1 := by simp
  have hB := heap_alloc_new (w2.alloc (.cells #[.iface 48 (.pointer (some ⟨w.heap.size, 0, none⟩)), .iface 51 (.pointer (some ⟨g, 0, none⟩))] 61)) (.cells #[.slice (some ⟨w2.heap.size, 0, none⟩) 2 2] 47)
  rw [e1] at hB
  have hbb : Below w2.heap.size w2 ((w2.alloc (.cells #[.iface 48 (.pointer (some ⟨w.heap.size, 0, none⟩)), .iface 51 (.pointer (some ⟨g, 0, none⟩))] 61)).alloc (.cells #[.slice (some ⟨w2.heap.size, 0, none⟩) 2 2] 47)) := (below_new _ _).trans (below_on (Below.refl _ _) (by simp) (below_new _ _))
  refine ⟨_, _, rfl, ⟨_, _, _, [⟨false, w.heap.size, 0, 0, 0⟩, ⟨true, g, bw, bn, bp⟩], rfl, PChn.new (w0 := w) (br := w2.heap.size) (cap := 2) (tb := 61) rfl (by simp) hB hA (fun i d s hi hs => ?_) (fun k hk => ?_) ?_ ?_ ?_ ?_ ?_ (good2 (newS_good (by omega)) (newS_good (by omega)))⟩, fun k q => q, below_on HL.out.1 HL.out.1.size hbb⟩
  · match i, hi, hs with
    | 0, hi, hs => cases hi; cases hs; exact LastAt.keep HH.out.1 (hbb.block _ HH.out.1.box.lt)
    | 1, hi, hs => cases hi; cases hs; exact TapAt.keep HH.out.2.1 (hbb.block _ HH.out.2.1.box.lt) (hbb.block _ HH.out.2.1.wts.lt) (hbb.block _ HH.out.2.1.nums.lt) (hbb.block _ HH.out.2.1.pulls.lt)
    | j + 2, hi, _ => simp at hi
  · have hL := HL.out
    simp only [owL, List.flatMap_cons, List.flatMap_nil, Dsc.ow, List.mem_append, List.mem_cons, List.not_mem_nil, or_false, List.append_nil] at hk
    omega
  · have hL := HL.out.2
    simp only [owL, List.flatMap_cons, List.flatMap_nil, Dsc.ow, List.nodup_cons, List.nodup_append, List.mem_append, List.mem_cons, List.not_mem_nil, or_false, List.append_nil, List.cons_append, List.nil_append, not_or, not_false_eq_true, List.nodup_nil, and_true] at hL ⊢
    omega
  · have hL := HL.out
    simp only [owL, List.flatMap_cons, List.flatMap_nil, Dsc.ow, List.mem_append, List.mem_cons, List.not_mem_nil, or_false, List.append_nil, List.cons_append, List.nil_append]
    omega
  · have hL := HL.out
    simp only [owL, List.flatMap_cons, List.flatMap_nil, Dsc.ow, List.mem_append, List.mem_cons, List.not_mem_nil, or_false, List.append_nil, List.cons_append, List.nil_append]
    omega
  · have := HL.out; omega
  · have := HL.out; omega
set_option maxRecDepth 20000 in
set_option maxHeartbeats 3200000 in
theorem p_new2 (w : World) : Calls Try.prog 18 #[.int .i64 2] w (NewQ VCh w [newS 0, newS 32, newS 16]) := by
  go_enter Try.func18, Try.ntmps18
  go_wp2_with fail
  generalize hw1 : World.alloc w _ = w1
  have H1 : Hid (LastAt w1 w.heap.size (newS 0) ∧ Below w.heap.size w w1 ∧ w.heap.size < w1.heap.size) := by
    rw [← hw1]; exact ⟨LastAt.new (heap_alloc_new _ _), below_new _ _, by simp⟩
  clear hw1
  refine (p_newTaps 32 (by omega) (by omega) w1).mono ?_
  rintro e w2 ⟨g, bw, bn, bp, rfl, ht, l1, l2, l3, l4, hb⟩
  have H2 : Hid (LastAt w2 w.heap.size (newS 0) ∧ TapAt w2 g bw bn bp (newS 32) ∧ w1.heap.size ≤ g ∧ w1.heap.size ≤ bw ∧ w1.heap.size ≤ bn ∧ w1.heap.size ≤ bp ∧ Below w.heap.size w w2) := ⟨H1.out.1.keep (hb.block _ H1.out.1.box.lt), ht, l1, l2, l3, l4, below_on H1.out.2.1 H1.out.2.1.size hb⟩
  clear ht l1 l2 l3 l4 hb
  go_wp2_with fail
  refine (p_newTaps 16 (by omega) (by omega) w2).mono ?_
  rintro e w3 ⟨g2, bw2, bn2, bp2, rfl, ht, l1, l2, l3, l4, hb⟩
  have H3 : Hid (LastAt w3 w.heap.size (newS 0) ∧ TapAt w3 g bw bn bp (newS 32) ∧ TapAt w3 g2 bw2 bn2 bp2 (newS 16) ∧ w2.heap.size ≤ g2 ∧ w2.heap.size ≤ bw2 ∧ w2.heap.size ≤ bn2 ∧ w2.heap.size ≤ bp2 ∧ Below w.heap.size w w3) := ⟨H2.out.1.keep (hb.block _ H2.out.1.box.lt), H2.out.2.1.keep (hb.block _ H2.out.2.1.box.lt) (hb.block _ H2.out.2.1.wts.lt) (hb.block _ H2.out.2.1.nums.lt) (hb.block _ H2.out.2.1.pulls.lt), ht, l1, l2, l3, l4, below_on H2.out.2.2.2.2.2.2 H2.out.2.2.2.2.2.2.size hb⟩
  clear ht l1 l2 l3 l4 hb
  go_wp2_with fail
  have HL : Hid (Below w.heap.size w w3 ∧ w.heap.size < g ∧ w.heap.size < bw ∧ w.heap.size < bn ∧ w.heap.size < bp ∧ g < g2 ∧ bw < g2 ∧ bn < g2 ∧ bp < g2 ∧ g < bw2 ∧ bw < bw2 ∧ bn < bw2 ∧ bp < bw2 ∧ g < bn2 ∧ bw < bn2 ∧ bn < bn2 ∧ bp < bn2 ∧ g < bp2 ∧ bw < bp2 ∧ bn < bp2 ∧ bp < bp2 ∧ g2 < w3.heap.size ∧ bw2 < w3.heap.size ∧ bn2 < w3.heap.size ∧ bp2 < w3.heap.size ∧ w.heap.size < w3.heap.size ∧ [g, bw, bn, bp].Nodup ∧ [g2, bw2, bn2, bp2].Nodup) := by
    obtain ⟨_, h2, m1, m2, m3, m4, m5⟩ := H2.out
    obtain ⟨_, _, k2, n1, n2, n3, n4, n5⟩ := H3.out
    have h1 := H1.out.2.2
    have a1 := h2.box.lt
    have a2 := h2.wts.lt
    have a3 := h2.nums.lt
    have a4 := h2.pulls.lt
    have b1 := k2.box.lt
    have b2 := k2.wts.lt
    have b3 := k2.nums.lt
    have b4 := k2.pulls.lt
    have hsz := m5.size
    exact ⟨n5, by omega, by omega, by omega, by omega, by omega, by omega, by omega, by omega, by omega, by omega, by omega, by omega, by omega, by omega, by omega, by omega, by omega, by omega, by omega, by omega, b1, b2, b3, b4, by omega, h2.nd, k2.nd⟩
  have HH := H3
  go_ret
  have hA := heap_two w3 (.cells #[.iface 48 (.pointer (some ⟨w.heap.size, 0, none⟩)), .iface 51 (.pointer (some ⟨g, 0, none⟩)), .iface 51 (.pointer (some ⟨g2, 0, none⟩))] 61) (.cells #[.slice (some ⟨w3.heap.size, 0, none⟩) 3 3] 47)
  have e1 : (w3.alloc (.cells #[.iface 48 (.pointer (some ⟨w.heap.size, 0, none⟩)), .iface 51 (.pointer (some ⟨g, 0, none⟩)), .iface 51 (.pointer (some ⟨g2, 0, none⟩))] 61)).heap.size = w3.heap.size + 1 := by simp
  have hB := heap_alloc_new (w3.alloc (.cells #[.iface 48 (.pointer (some ⟨w.heap.size, 0, none⟩)), .iface 51 (.pointer (some ⟨g, 0, none⟩)), .iface 51 (.pointer (some ⟨g2, 0, none⟩))] 61)) (.cells #[.slice (some ⟨w3.heap.size, 0, none⟩) 3 3] 47)
  rw [e1] at hB
  have hbb : Below w3.heap.size w3 ((w3.alloc (.cells #[.iface 48 (.pointer (some ⟨w.heap.size, 0, none⟩)), .iface 51 (.pointer (some ⟨g, 0, none⟩)), .iface 51 (.pointer (some ⟨g2, 0, none⟩))] 61)).alloc (.cells #[.slice (some ⟨w3.heap.size, 0, none⟩) 3 3] 47)) := (below_new _ _).trans (below_on (Below.refl _ _) (by simp) (below_new _ _))
  refine ⟨_, _, rfl, ⟨_, _, _, [⟨false, w.heap.size, 0, 0, 0⟩, ⟨true, g, bw, bn, bp⟩, ⟨true, g2, bw2, bn2, bp2⟩], rfl, PChn.new (w0 := w) (br := w3.heap.size) (cap := 3) (tb := 61) rfl (by simp) hB hA (fun i d s hi hs => ?_) (fun k hk => ?_) ?_ ?_ ?_ ?_ ?_ (good3 (newS_good (by omega)) (newS_good (by omega)) (newS_good (by omega)))⟩, fun k q => q, below_on HL.out.1 HL.out.1.size hbb⟩
  · match i, hi, hs with
    | 0, hi, hs => cases hi; cases hs; exact LastAt.keep HH.out.1 (hbb.block _ HH.out.1.box.lt)
    | 1, hi, hs => cases hi; cases hs; exact TapAt.keep HH.out.2.1 (hbb.block _ HH.out.2.1.box.lt) (hbb.block _ HH.out.2.1.wts.lt) (hbb.block _ HH.out.2.1.nums.lt) (hbb.block _ HH.out.2.1.pulls.lt)
    | 2, hi, hs => cases hi; cases hs; exact TapAt.keep HH.out.2.2.1 (hbb.block _ HH.out.2.2.1.box.lt) (hbb.block _ HH.out.2.2.1.wts.lt) (hbb.block _ HH.out.2.2.1.nums.lt) (hbb.block _ HH.out.2.2.1.pulls.lt)
    | j + 3, hi, _ => simp at hi
  · have hL := HL.out
    simp only [owL, List.flatMap_cons, List.flatMap_nil, Dsc.ow, List.mem_append, List.mem_cons, List.not_mem_nil, or_false, List.append_nil] at hk
    omega
  · have hL := HL.out.2
    simp only [owL, List.flatMap_cons, List.flatMap_nil, Dsc.ow, List.nodup_cons, List.nodup_append, List.mem_append, List.mem_cons, List.not_mem_nil, or_false, List.append_nil, List.cons_append, List.nil_append, not_or, not_false_eq_true, List.nodup_nil, and_true] at hL ⊢
    omega
  · have hL := HL.out
    simp only [owL, List.flatMap_cons, List.flatMap_nil, Dsc.ow, List.mem_append, List.mem_cons, List.not_mem_nil, or_false, List.append_nil, List.cons_append, List.nil_append]
    omega
  · have hL := HL.out
    simp only [owL, List.flatMap_cons, List.flatMap_nil, Dsc.ow, List.mem_append, List.mem_cons, List.not_mem_nil, or_false, List.append_nil, List.cons_append, List.nil_append]
    omega
  · have := HL.out; omega
  · have := HL.out; omega
theorem p_new (level : Int) (c : List Stp) (w : World) (h : newC level = some c) : Calls Try.prog 18 #[.int .i64 level] w (NewQ VCh w c) := by
  unfold newC at h
  split at h
  · next e => subst e; cases h; exact p_new0 w
  · split at h
    · next e => subst e; cases h; exact p_new1 w
    · split at h
      · next e => subst e; cases h; exact p_new2 w
      · cases h

end Go.Proofs.Ytecdcmjeiogenaa
