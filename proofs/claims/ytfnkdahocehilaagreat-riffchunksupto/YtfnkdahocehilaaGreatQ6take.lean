/- Own text: the walk of take. -/
import Derived.Test.YtfnkdahocehilaaGreatG25x
namespace Go.Proofs.YtfnkdahocehilaaGreat
open Go.RowKit
set_option linter.unusedSimpArgs false
set_option linter.unusedVariables false

/-- take's box of the chunk, beside the file. -/
structure Jt (w0 : World) (b : Nat) (f : Fst) (c : Chk) (w : World) : Prop where
  fa : Fa b f w
  cb : w.heap[w0.heap.size]? = some (.cells (chkC c) 52 (0, 0))
  lo : b < w0.heap.size
  but : But b w0 w
theorem Jt.new {w : World} {b : Nat} {f : Fst} (h : Fa b f w) (c : Chk) : Jt w b f c (w.alloc (.cells (chkC c) 52)) :=
  have hB : Below w.heap.size w (w.alloc (.cells (chkC c) 52)) := (Below.refl _ _).alloc (Nat.le_refl _) _
  ⟨h.next hB, heap_alloc_new w _, h.lt, But.below hB⟩
theorem Jt.new5 {w : World} {b : Nat} {f : Fst} (h : Fa b f w) (c : Chk) (n : Int) : Jt w b { f with seen := n } c ((w.setCell ⟨b, 5, none⟩ (.int .i64 n)).alloc (.cells (chkC c) 52)) := by
  have hs : (w.setCell ⟨b, 5, none⟩ (.int .i64 n)).heap.size = w.heap.size := by simp [World.setCell]
  have h1 : Fa b { f with seen := n } (w.setCell ⟨b, 5, none⟩ (.int .i64 n)) := h.set 5 _ rfl
  have hB : Below w.heap.size (w.setCell ⟨b, 5, none⟩ (.int .i64 n)) ((w.setCell ⟨b, 5, none⟩ (.int .i64 n)).alloc (.cells (chkC c) 52)) := (Below.refl _ _).alloc (by rw [hs]; exact Nat.le_refl _) _
  rw [← hs] at hB
  refine ⟨h1.next hB, ?_, h.lt, (But.set _ _ _ _).trans (But.below hB)⟩
  rw [← hs]
  exact heap_alloc_new _ _
theorem Jt.set {w0 w : World} {b : Nat} {f g : Fst} {c : Chk} (h : Jt w0 b f c w) (j : Nat) (v : Value) (e : (fileC f).setIfInBounds j v = fileC g) : Jt w0 b g c (w.setCell ⟨b, j, none⟩ v) :=
  ⟨h.fa.set j v e, by rw [Below.heap_setCell _ _ _ _ (by show w0.heap.size ≠ b; have := h.lo; omega)]; exact h.cb, h.lo, h.but.trans (But.set _ _ _ _)⟩
theorem Jt.s {w0 w : World} {b : Nat} {f : Fst} {c : Chk} (h : Jt w0 b f c w) (j : Nat) (v : Value) (hv : (chkC c)[j]? = some v) : w.cell? ⟨w0.heap.size, j, none⟩ = some v := by rw [cell_of_row _ _ _ _ _ _ h.cb]; exact hv

set_option maxRecDepth 20000 in
set_option maxHeartbeats 3200000 in
theorem take_bad1 (f : Fst) (c : Chk) (hs0 : 0 ≤ f.seen) (hs1 : f.seen ≤ 2000) (hcb : c.body.size ≤ 140737488351232) (b : Nat) (w : World) (h : Fa b f w) (hl : longB f = true) (hi : (f.seen + 1 == 1) = true) (hz : (c.id.toList == idSizes.toList) = false) :
    Calls Tryz.prog 74 #[.pointer (some ⟨b, 0, none⟩), chkV c] w fun e w' => e = .returned (.int .i64 (takeN f c).2) ∧ Fa b (takeN f c).1 w' ∧ But b w w' := by
  have HR : Hid (takeN f c = (seenN f, 2)) := by show _ = _; unfold takeN; rw [hl, hi, hz]; rfl
  have hi2 : (f.seen == 0) = true := by rw [← hi, Bool.eq_iff_iff, beq_iff_eq, beq_iff_eq]; omega
  rw [sizes_list] at hz
  have c5 := h.c 5 _ rfl
  have z5 := h.z 5
  have lo := h.lt
  have HJ : Hid (Jt w b (seenN f) c ((w.setCell ⟨b, 5, none⟩ (.int .i64 (f.seen + 1))).alloc (.cells (chkC c) 52))) := Jt.new5 h c _
  have d5 : ((w.setCell ⟨b, 5, none⟩ (.int .i64 (f.seen + 1))).alloc (.cells (chkC c) 52)).cell? ⟨b, 5, none⟩ = some (.int .i64 (f.seen + 1)) := HJ.out.fa.c 5 _ rfl
  clear h
  have kl := isLong_spec (seenN f) b _ HJ.out.fa
  rw [show longB (seenN f) = true from hl] at kl
  have e0 := HJ.out.s 0 _ rfl
  have e1 := HJ.out.s 1 _ rfl
  go_enter Tryz.func74, Tryz.ntmps74
  go_wp2_with fail
  refine kl.mono ?_
  rintro e w2 ⟨rfl, rfl⟩
  clear kl
  go_wp2_with fail
  go_ret
  exact ⟨by rw [HR.out]; rfl, by rw [HR.out]; exact HJ.out.fa, HJ.out.but⟩

set_option maxRecDepth 20000 in
set_option maxHeartbeats 3200000 in
theorem take_bad2 (f : Fst) (c : Chk) (hs0 : 0 ≤ f.seen) (hs1 : f.seen ≤ 2000) (hcb : c.body.size ≤ 140737488351232) (b : Nat) (w : World) (h : Fa b f w) (hl : longB f = true) (hi : (f.seen + 1 == 1) = false) (hz : (c.id.toList == idSizes.toList) = true) :
    Calls Tryz.prog 74 #[.pointer (some ⟨b, 0, none⟩), chkV c] w fun e w' => e = .returned (.int .i64 (takeN f c).2) ∧ Fa b (takeN f c).1 w' ∧ But b w w' := by
  have HR : Hid (takeN f c = (seenN f, 2)) := by show _ = _; unfold takeN; rw [hl, hi, hz]; rfl
  have hi2 : (f.seen == 0) = false := by rw [← hi, Bool.eq_iff_iff, beq_iff_eq, beq_iff_eq]; omega
  rw [sizes_list] at hz
  have c5 := h.c 5 _ rfl
  have z5 := h.z 5
  have lo := h.lt
  have HJ : Hid (Jt w b (seenN f) c ((w.setCell ⟨b, 5, none⟩ (.int .i64 (f.seen + 1))).alloc (.cells (chkC c) 52))) := Jt.new5 h c _
  have d5 : ((w.setCell ⟨b, 5, none⟩ (.int .i64 (f.seen + 1))).alloc (.cells (chkC c) 52)).cell? ⟨b, 5, none⟩ = some (.int .i64 (f.seen + 1)) := HJ.out.fa.c 5 _ rfl
  clear h
  have kl := isLong_spec (seenN f) b _ HJ.out.fa
  rw [show longB (seenN f) = true from hl] at kl
  have e0 := HJ.out.s 0 _ rfl
  have e1 := HJ.out.s 1 _ rfl
  go_enter Tryz.func74, Tryz.ntmps74
  go_wp2_with fail
  refine kl.mono ?_
  rintro e w2 ⟨rfl, rfl⟩
  clear kl
  go_wp2_with fail
  go_ret
  exact ⟨by rw [HR.out]; rfl, by rw [HR.out]; exact HJ.out.fa, HJ.out.but⟩

set_option maxRecDepth 20000 in
set_option maxHeartbeats 3200000 in
theorem take_sizes (f : Fst) (c : Chk) (hs0 : 0 ≤ f.seen) (hs1 : f.seen ≤ 2000) (hcb : c.body.size ≤ 140737488351232) (b : Nat) (w : World) (h : Fa b f w) (hl : longB f = true) (hi : (f.seen + 1 == 1) = true) (hz : (c.id.toList == idSizes.toList) = true) :
    Calls Tryz.prog 74 #[.pointer (some ⟨b, 0, none⟩), chkV c] w fun e w' => e = .returned (.int .i64 (takeN f c).2) ∧ Fa b (takeN f c).1 w' ∧ But b w w' := by
  have HR : Hid (takeN f c = takeSizesN (seenN f) c.body) := by show _ = _; unfold takeN; rw [hl, hi, hz]; rfl
  have hi2 : (f.seen == 0) = true := by rw [← hi, Bool.eq_iff_iff, beq_iff_eq, beq_iff_eq]; omega
  rw [sizes_list] at hz
  have c5 := h.c 5 _ rfl
  have z5 := h.z 5
  have lo := h.lt
  have HJ : Hid (Jt w b (seenN f) c ((w.setCell ⟨b, 5, none⟩ (.int .i64 (f.seen + 1))).alloc (.cells (chkC c) 52))) := Jt.new5 h c _
  have d5 : ((w.setCell ⟨b, 5, none⟩ (.int .i64 (f.seen + 1))).alloc (.cells (chkC c) 52)).cell? ⟨b, 5, none⟩ = some (.int .i64 (f.seen + 1)) := HJ.out.fa.c 5 _ rfl
  clear h
  have kl := isLong_spec (seenN f) b _ HJ.out.fa
  rw [show longB (seenN f) = true from hl] at kl
  have e0 := HJ.out.s 0 _ rfl
  have e1 := HJ.out.s 1 _ rfl
  have kc := takeSizes_spec (seenN f) c.body b _ HJ.out.fa
  go_enter Tryz.func74, Tryz.ntmps74
  go_wp2_with fail
  refine kl.mono ?_
  rintro e w2 ⟨rfl, rfl⟩
  go_wp2_with fail
  refine kl.mono ?_
  rintro e w2 ⟨rfl, rfl⟩
  clear kl
  go_wp2_with fail
  refine kc.mono ?_
  rintro e w3 ⟨rfl, hf3, hb3⟩
  have H3 : Hid (Fa b (takeN f c).1 w3 ∧ But b w w3) := ⟨by rw [HR.out]; exact hf3, HJ.out.but.trans hb3⟩
  clear kc hf3 hb3 e0 e1
  go_wp2_with fail
  go_ret
  exact ⟨by rw [HR.out]; rfl, H3.out.1, H3.out.2⟩

set_option maxRecDepth 20000 in
set_option maxHeartbeats 3200000 in
theorem take_lfmt (f : Fst) (c : Chk) (hs0 : 0 ≤ f.seen) (hs1 : f.seen ≤ 2000) (hcb : c.body.size ≤ 140737488351232) (b : Nat) (w : World) (h : Fa b f w) (hl : longB f = true) (hi : (f.seen + 1 == 1) = false) (hz : (c.id.toList == idSizes.toList) = false) (hm : (c.id.toList == idFmt.toList) = true) :
    Calls Tryz.prog 74 #[.pointer (some ⟨b, 0, none⟩), chkV c] w fun e w' => e = .returned (.int .i64 (takeN f c).2) ∧ Fa b (takeN f c).1 w' ∧ But b w w' := by
  have HR : Hid (takeN f c = takeFmtN (seenN f) c.body) := by show _ = _; unfold takeN; rw [hl, hi, hz, hm]; rfl
  have hi2 : (f.seen == 0) = false := by rw [← hi, Bool.eq_iff_iff, beq_iff_eq, beq_iff_eq]; omega
  rw [sizes_list] at hz
  rw [fmt_list] at hm
  have c5 := h.c 5 _ rfl
  have z5 := h.z 5
  have lo := h.lt
  have HJ : Hid (Jt w b (seenN f) c ((w.setCell ⟨b, 5, none⟩ (.int .i64 (f.seen + 1))).alloc (.cells (chkC c) 52))) := Jt.new5 h c _
  have d5 : ((w.setCell ⟨b, 5, none⟩ (.int .i64 (f.seen + 1))).alloc (.cells (chkC c) 52)).cell? ⟨b, 5, none⟩ = some (.int .i64 (f.seen + 1)) := HJ.out.fa.c 5 _ rfl
  clear h
  have kl := isLong_spec (seenN f) b _ HJ.out.fa
  rw [show longB (seenN f) = true from hl] at kl
  have e0 := HJ.out.s 0 _ rfl
  have e1 := HJ.out.s 1 _ rfl
  have kc := takeFmt_spec (seenN f) c.body hcb b _ HJ.out.fa
  go_enter Tryz.func74, Tryz.ntmps74
  go_wp2_with fail
  refine kl.mono ?_
  rintro e w2 ⟨rfl, rfl⟩
  go_wp2_with fail
  refine kl.mono ?_
  rintro e w2 ⟨rfl, rfl⟩
  clear kl
  go_wp2_with fail
  refine kc.mono ?_
  rintro e w3 ⟨rfl, hf3, hb3⟩
  have H3 : Hid (Fa b (takeN f c).1 w3 ∧ But b w w3) := ⟨by rw [HR.out]; exact hf3, HJ.out.but.trans hb3⟩
  clear kc hf3 hb3 e0 e1
  go_wp2_with fail
  go_ret
  exact ⟨by rw [HR.out]; rfl, H3.out.1, H3.out.2⟩

set_option maxRecDepth 20000 in
set_option maxHeartbeats 3200000 in
theorem take_ldata (f : Fst) (c : Chk) (hs0 : 0 ≤ f.seen) (hs1 : f.seen ≤ 2000) (hcb : c.body.size ≤ 140737488351232) (b : Nat) (w : World) (h : Fa b f w) (hl : longB f = true) (hi : (f.seen + 1 == 1) = false) (hz : (c.id.toList == idSizes.toList) = false) (hm : (c.id.toList == idFmt.toList) = false) (hd : (c.id.toList == idData.toList) = true) :
    Calls Tryz.prog 74 #[.pointer (some ⟨b, 0, none⟩), chkV c] w fun e w' => e = .returned (.int .i64 (takeN f c).2) ∧ Fa b (takeN f c).1 w' ∧ But b w w' := by
  have HR : Hid (takeN f c = takeDataN (seenN f) c.body) := by show _ = _; unfold takeN; rw [hl, hi, hz, hm, hd]; rfl
  have hi2 : (f.seen == 0) = false := by rw [← hi, Bool.eq_iff_iff, beq_iff_eq, beq_iff_eq]; omega
  rw [sizes_list] at hz
  rw [fmt_list] at hm
  rw [idData_list] at hd
  have c5 := h.c 5 _ rfl
  have z5 := h.z 5
  have lo := h.lt
  have HJ : Hid (Jt w b (seenN f) c ((w.setCell ⟨b, 5, none⟩ (.int .i64 (f.seen + 1))).alloc (.cells (chkC c) 52))) := Jt.new5 h c _
  have d5 : ((w.setCell ⟨b, 5, none⟩ (.int .i64 (f.seen + 1))).alloc (.cells (chkC c) 52)).cell? ⟨b, 5, none⟩ = some (.int .i64 (f.seen + 1)) := HJ.out.fa.c 5 _ rfl
  clear h
  have kl := isLong_spec (seenN f) b _ HJ.out.fa
  rw [show longB (seenN f) = true from hl] at kl
  have e0 := HJ.out.s 0 _ rfl
  have e1 := HJ.out.s 1 _ rfl
  have kc := takeData_spec (seenN f) c.body b _ HJ.out.fa
  go_enter Tryz.func74, Tryz.ntmps74
  go_wp2_with fail
  refine kl.mono ?_
  rintro e w2 ⟨rfl, rfl⟩
  go_wp2_with fail
  refine kl.mono ?_
  rintro e w2 ⟨rfl, rfl⟩
  clear kl
  go_wp2_with fail
  refine kc.mono ?_
  rintro e w3 ⟨rfl, hf3, hb3⟩
  have H3 : Hid (Fa b (takeN f c).1 w3 ∧ But b w w3) := ⟨by rw [HR.out]; exact hf3, HJ.out.but.trans hb3⟩
  clear kc hf3 hb3 e0 e1
  go_wp2_with fail
  go_ret
  exact ⟨by rw [HR.out]; rfl, H3.out.1, H3.out.2⟩

set_option maxRecDepth 20000 in
set_option maxHeartbeats 3200000 in
theorem take_lother (f : Fst) (c : Chk) (hs0 : 0 ≤ f.seen) (hs1 : f.seen ≤ 2000) (hcb : c.body.size ≤ 140737488351232) (b : Nat) (w : World) (h : Fa b f w) (hl : longB f = true) (hi : (f.seen + 1 == 1) = false) (hz : (c.id.toList == idSizes.toList) = false) (hm : (c.id.toList == idFmt.toList) = false) (hd : (c.id.toList == idData.toList) = false) :
    Calls Tryz.prog 74 #[.pointer (some ⟨b, 0, none⟩), chkV c] w fun e w' => e = .returned (.int .i64 (takeN f c).2) ∧ Fa b (takeN f c).1 w' ∧ But b w w' := by
  have HR : Hid (takeN f c = (seenN f, 0)) := by show _ = _; unfold takeN; rw [hl, hi, hz, hm, hd]; rfl
  have hi2 : (f.seen == 0) = false := by rw [← hi, Bool.eq_iff_iff, beq_iff_eq, beq_iff_eq]; omega
  rw [sizes_list] at hz
  rw [fmt_list] at hm
  rw [idData_list] at hd
  have c5 := h.c 5 _ rfl
  have z5 := h.z 5
  have lo := h.lt
  have HJ : Hid (Jt w b (seenN f) c ((w.setCell ⟨b, 5, none⟩ (.int .i64 (f.seen + 1))).alloc (.cells (chkC c) 52))) := Jt.new5 h c _
  have d5 : ((w.setCell ⟨b, 5, none⟩ (.int .i64 (f.seen + 1))).alloc (.cells (chkC c) 52)).cell? ⟨b, 5, none⟩ = some (.int .i64 (f.seen + 1)) := HJ.out.fa.c 5 _ rfl
  clear h
  have kl := isLong_spec (seenN f) b _ HJ.out.fa
  rw [show longB (seenN f) = true from hl] at kl
  have e0 := HJ.out.s 0 _ rfl
  have e1 := HJ.out.s 1 _ rfl
  go_enter Tryz.func74, Tryz.ntmps74
  go_wp2_with fail
  refine kl.mono ?_
  rintro e w2 ⟨rfl, rfl⟩
  go_wp2_with fail
  refine kl.mono ?_
  rintro e w2 ⟨rfl, rfl⟩
  clear kl
  go_wp2_with fail
  go_ret
  exact ⟨by rw [HR.out]; rfl, by rw [HR.out]; exact HJ.out.fa, HJ.out.but⟩

set_option maxRecDepth 20000 in
set_option maxHeartbeats 3200000 in
theorem take_sfmt (f : Fst) (c : Chk) (hs0 : 0 ≤ f.seen) (hs1 : f.seen ≤ 2000) (hcb : c.body.size ≤ 140737488351232) (b : Nat) (w : World) (h : Fa b f w) (hl : longB f = false) (hm : (c.id.toList == idFmt.toList) = true) :
    Calls Tryz.prog 74 #[.pointer (some ⟨b, 0, none⟩), chkV c] w fun e w' => e = .returned (.int .i64 (takeN f c).2) ∧ Fa b (takeN f c).1 w' ∧ But b w w' := by
  have HR : Hid (takeN f c = takeFmtN (seenN f) c.body) := by show _ = _; unfold takeN; rw [hl, hm]; rfl
  rw [fmt_list] at hm
  have c5 := h.c 5 _ rfl
  have z5 := h.z 5
  have lo := h.lt
  have HJ : Hid (Jt w b (seenN f) c ((w.setCell ⟨b, 5, none⟩ (.int .i64 (f.seen + 1))).alloc (.cells (chkC c) 52))) := Jt.new5 h c _
  have d5 : ((w.setCell ⟨b, 5, none⟩ (.int .i64 (f.seen + 1))).alloc (.cells (chkC c) 52)).cell? ⟨b, 5, none⟩ = some (.int .i64 (f.seen + 1)) := HJ.out.fa.c 5 _ rfl
  clear h
  have kl := isLong_spec (seenN f) b _ HJ.out.fa
  rw [show longB (seenN f) = false from hl] at kl
  have e0 := HJ.out.s 0 _ rfl
  have e1 := HJ.out.s 1 _ rfl
  have kc := takeFmt_spec (seenN f) c.body hcb b _ HJ.out.fa
  go_enter Tryz.func74, Tryz.ntmps74
  go_wp2_with fail
  refine kl.mono ?_
  rintro e w2 ⟨rfl, rfl⟩
  go_wp2_with fail
  refine kl.mono ?_
  rintro e w2 ⟨rfl, rfl⟩
  clear kl
  go_wp2_with fail
  refine kc.mono ?_
  rintro e w3 ⟨rfl, hf3, hb3⟩
  have H3 : Hid (Fa b (takeN f c).1 w3 ∧ But b w w3) := ⟨by rw [HR.out]; exact hf3, HJ.out.but.trans hb3⟩
  clear kc hf3 hb3 e0 e1
  go_wp2_with fail
  go_ret
  exact ⟨by rw [HR.out]; rfl, H3.out.1, H3.out.2⟩

set_option maxRecDepth 20000 in
set_option maxHeartbeats 3200000 in
theorem take_sdata (f : Fst) (c : Chk) (hs0 : 0 ≤ f.seen) (hs1 : f.seen ≤ 2000) (hcb : c.body.size ≤ 140737488351232) (b : Nat) (w : World) (h : Fa b f w) (hl : longB f = false) (hm : (c.id.toList == idFmt.toList) = false) (hd : (c.id.toList == idData.toList) = true) :
    Calls Tryz.prog 74 #[.pointer (some ⟨b, 0, none⟩), chkV c] w fun e w' => e = .returned (.int .i64 (takeN f c).2) ∧ Fa b (takeN f c).1 w' ∧ But b w w' := by
  have HR : Hid (takeN f c = takeDataN (seenN f) c.body) := by show _ = _; unfold takeN; rw [hl, hm, hd]; rfl
  rw [fmt_list] at hm
  rw [idData_list] at hd
  have c5 := h.c 5 _ rfl
  have z5 := h.z 5
  have lo := h.lt
  have HJ : Hid (Jt w b (seenN f) c ((w.setCell ⟨b, 5, none⟩ (.int .i64 (f.seen + 1))).alloc (.cells (chkC c) 52))) := Jt.new5 h c _
  have d5 : ((w.setCell ⟨b, 5, none⟩ (.int .i64 (f.seen + 1))).alloc (.cells (chkC c) 52)).cell? ⟨b, 5, none⟩ = some (.int .i64 (f.seen + 1)) := HJ.out.fa.c 5 _ rfl
  clear h
  have kl := isLong_spec (seenN f) b _ HJ.out.fa
  rw [show longB (seenN f) = false from hl] at kl
  have e0 := HJ.out.s 0 _ rfl
  have e1 := HJ.out.s 1 _ rfl
  have kc := takeData_spec (seenN f) c.body b _ HJ.out.fa
  go_enter Tryz.func74, Tryz.ntmps74
  go_wp2_with fail
  refine kl.mono ?_
  rintro e w2 ⟨rfl, rfl⟩
  go_wp2_with fail
  refine kl.mono ?_
  rintro e w2 ⟨rfl, rfl⟩
  clear kl
  go_wp2_with fail
  refine kc.mono ?_
  rintro e w3 ⟨rfl, hf3, hb3⟩
  have H3 : Hid (Fa b (takeN f c).1 w3 ∧ But b w w3) := ⟨by rw [HR.out]; exact hf3, HJ.out.but.trans hb3⟩
  clear kc hf3 hb3 e0 e1
  go_wp2_with fail
  go_ret
  exact ⟨by rw [HR.out]; rfl, H3.out.1, H3.out.2⟩

set_option maxRecDepth 20000 in
set_option maxHeartbeats 3200000 in
theorem take_sother (f : Fst) (c : Chk) (hs0 : 0 ≤ f.seen) (hs1 : f.seen ≤ 2000) (hcb : c.body.size ≤ 140737488351232) (b : Nat) (w : World) (h : Fa b f w) (hl : longB f = false) (hm : (c.id.toList == idFmt.toList) = false) (hd : (c.id.toList == idData.toList) = false) :
    Calls Tryz.prog 74 #[.pointer (some ⟨b, 0, none⟩), chkV c] w fun e w' => e = .returned (.int .i64 (takeN f c).2) ∧ Fa b (takeN f c).1 w' ∧ But b w w' := by
  have HR : Hid (takeN f c = (seenN f, 0)) := by show _ = _; unfold takeN; rw [hl, hm, hd]; rfl
  rw [fmt_list] at hm
  rw [idData_list] at hd
  have c5 := h.c 5 _ rfl
  have z5 := h.z 5
  have lo := h.lt
  have HJ : Hid (Jt w b (seenN f) c ((w.setCell ⟨b, 5, none⟩ (.int .i64 (f.seen + 1))).alloc (.cells (chkC c) 52))) := Jt.new5 h c _
  have d5 : ((w.setCell ⟨b, 5, none⟩ (.int .i64 (f.seen + 1))).alloc (.cells (chkC c) 52)).cell? ⟨b, 5, none⟩ = some (.int .i64 (f.seen + 1)) := HJ.out.fa.c 5 _ rfl
  clear h
  have kl := isLong_spec (seenN f) b _ HJ.out.fa
  rw [show longB (seenN f) = false from hl] at kl
  have e0 := HJ.out.s 0 _ rfl
  have e1 := HJ.out.s 1 _ rfl
  go_enter Tryz.func74, Tryz.ntmps74
  go_wp2_with fail
  refine kl.mono ?_
  rintro e w2 ⟨rfl, rfl⟩
  go_wp2_with fail
  refine kl.mono ?_
  rintro e w2 ⟨rfl, rfl⟩
  clear kl
  go_wp2_with fail
  go_ret
  exact ⟨by rw [HR.out]; rfl, by rw [HR.out]; exact HJ.out.fa, HJ.out.but⟩

theorem take_spec (f : Fst) (c : Chk) (hs0 : 0 ≤ f.seen) (hs1 : f.seen ≤ 2000) (hcb : c.body.size ≤ 140737488351232) (b : Nat) (w : World) (h : Fa b f w) :
    Calls Tryz.prog 74 #[.pointer (some ⟨b, 0, none⟩), chkV c] w fun e w' => e = .returned (.int .i64 (takeN f c).2) ∧ Fa b (takeN f c).1 w' ∧ But b w w' := by
  cases hl : longB f
  · cases hm : c.id.toList == idFmt.toList
    · cases hd : c.id.toList == idData.toList
      · exact take_sother f c hs0 hs1 hcb b w h hl hm hd
      · exact take_sdata f c hs0 hs1 hcb b w h hl hm hd
    · exact take_sfmt f c hs0 hs1 hcb b w h hl hm
  · cases hi : f.seen + 1 == 1
    · cases hz : c.id.toList == idSizes.toList
      · cases hm : c.id.toList == idFmt.toList
        · cases hd : c.id.toList == idData.toList
          · exact take_lother f c hs0 hs1 hcb b w h hl hi hz hm hd
          · exact take_ldata f c hs0 hs1 hcb b w h hl hi hz hm hd
        · exact take_lfmt f c hs0 hs1 hcb b w h hl hi hz hm
      · exact take_bad2 f c hs0 hs1 hcb b w h hl hi hz
    · cases hz : c.id.toList == idSizes.toList
      · exact take_bad1 f c hs0 hs1 hcb b w h hl hi hz
      · exact take_sizes f c hs0 hs1 hcb b w h hl hi hz

end Go.Proofs.YtfnkdahocehilaaGreat
