/- Own text: soundOf, whatever the text. the walks of takeFmt and takeData. -/
import Derived.Test.YtfnkdahocehilaaGreatQ6sofa
import Derived.Test.YtfnkdahocehilaaGreatQ6sofb
import Derived.Test.YtfnkdahocehilaaGreatG22x
namespace Go.Proofs.YtfnkdahocehilaaGreat
open Go.RowKit
set_option linter.unusedSimpArgs false
set_option linter.unusedVariables false

theorem soundOf_spec (s : ByteArray) (hs : s.size ≤ 140737488351232) (w : World) :
    Calls Tryz.prog 116 #[.string s] w fun e w' => e = .returned (.tuple #[sndV (sndA s), .int .i64 (sndE s)]) ∧ Below w.heap.size w w' := by
  have hno : ∀ n : Int, sndE s = n → n ≠ 0 → Value.tuple #[.agg zeroS, .int .i64 n] = .tuple #[sndV (sndA s), .int .i64 (sndE s)] := fun n he hn => by
    unfold sndA
    rw [he, if_neg hn]
    rfl
  by_cases h : s.size < 16
  · refine (soundOf_short s hs h w).mono fun e w' q => ⟨q.1.trans (by rw [hno 2 (by unfold sndE; rw [if_pos h]) (by decide)]), q.2⟩
  · have h16 : 16 ≤ s.size := by omega
    cases ht1 : tagI s != 1
    · cases hg : tagI s != tagN s.size
      · exact soundOf_a s hs h16 ht1 hg w
      · exact (soundOf_len_a s hs h16 ht1 hg w).mono fun e w' q => ⟨q.1.trans (by rw [hno 2 (by unfold sndE; rw [if_neg h, ht1, hg]; rfl) (by decide)]), q.2⟩
    · cases ht2 : tagI s != 65534
      · cases hg : tagI s != tagN s.size
        · exact soundOf_b s hs h16 ht1 ht2 hg w
        · exact (soundOf_len_b s hs h16 ht1 ht2 hg w).mono fun e w' q => ⟨q.1.trans (by rw [hno 2 (by unfold sndE; rw [if_neg h, ht1, ht2, hg]; rfl) (by decide)]), q.2⟩
      · exact (soundOf_tag s hs h16 ht1 ht2 w).mono fun e w' q => ⟨q.1.trans (by rw [hno 3 (by unfold sndE; rw [if_neg h, ht1, ht2]; rfl) (by decide)]), q.2⟩

end Go.Proofs.YtfnkdahocehilaaGreat

namespace Go.Proofs.YtfnkdahocehilaaGreat
open Go.RowKit
set_option linter.unusedSimpArgs false
set_option linter.unusedVariables false

set_option maxRecDepth 20000 in
set_option maxHeartbeats 3200000 in
theorem takeFmt_again (f : Fst) (s : ByteArray) (b : Nat) (w : World) (h : Fa b f w) (hf : f.hf = true) :
    Calls Tryz.prog 101 #[.pointer (some ⟨b, 0, none⟩), .string s] w fun e w' => e = .returned (.int .i64 (takeFmtN f s).2) ∧ Fa b (takeFmtN f s).1 w' ∧ But b w w' := by
  have HR : Hid (takeFmtN f s = (f, 2)) := by show _ = _; unfold takeFmtN; rw [hf]; rfl
  have HF : Hid (Fa b f w) := h
  have c6 : w.cell? ⟨b, 6, none⟩ = some (.bool true) := by rw [h.c 6 _ rfl]; simp [hf]
  clear h hf
  go_enter Tryz.func101, Tryz.ntmps101
  go_wp2_with fail
  go_ret
  exact ⟨by rw [HR.out]; rfl, by rw [HR.out]; exact HF.out, But.refl _ _⟩

set_option maxRecDepth 20000 in
set_option maxHeartbeats 3200000 in
theorem takeFmt_new (f : Fst) (s : ByteArray) (hs : s.size ≤ 140737488351232) (b : Nat) (w : World) (h : Fa b f w) (hf : f.hf = false) :
    Calls Tryz.prog 101 #[.pointer (some ⟨b, 0, none⟩), .string s] w fun e w' => e = .returned (.int .i64 (takeFmtN f s).2) ∧ Fa b (takeFmtN f s).1 w' ∧ But b w w' := by
  have HR : Hid (takeFmtN f s = ({ f with hf := true, a := sndA s }, sndE s)) := by show _ = _; unfold takeFmtN; rw [hf]; rfl
  have HF : Hid (Fa b f w) := h
  have c6 : w.cell? ⟨b, 6, none⟩ = some (.bool false) := by rw [h.c 6 _ rfl]; simp [hf]
  have ks := soundOf_spec s hs w
  generalize sndA s = A at *
  generalize sndE s = E at *
  clear h hf
  go_enter Tryz.func101, Tryz.ntmps101
  go_wp2_with fail
  refine ks.mono ?_
  rintro e w2 ⟨rfl, hB⟩
  have H2 : Hid (Fa b f (w2.alloc (.cells (sndC A) 73)) ∧ But b w (w2.alloc (.cells (sndC A) 73)) ∧ (w2.alloc (.cells (sndC A) 73)).heap[w2.heap.size]? = some (.cells (sndC A) 73 (0, 0)) ∧ b < w2.heap.size) := by
    have hB2 : Below w2.heap.size w2 (w2.alloc (.cells (sndC A) 73)) := (Below.refl _ _).alloc (Nat.le_refl _) _
    exact ⟨(HF.out.next hB).next hB2, (But.below hB).trans (But.below hB2), heap_alloc_new w2 _, (HF.out.next hB).lt⟩
  clear ks hB HF c6
  go_wp2_with fail
  generalize w2.alloc (.cells #[.int .i64 A.rate, .int .i64 A.ch, .int .i64 A.wd] 73) = wn at *
  generalize w2.heap.size = Q at *
  have lo : b < Q := H2.out.2.2.2
  have c6 := H2.out.1.c 6 _ rfl
  have c8 := H2.out.1.c 8 _ rfl
  have c9 := H2.out.1.c 9 _ rfl
  have c10 := H2.out.1.c 10 _ rfl
  have z6 := H2.out.1.z 6
  have z8 := H2.out.1.z 8
  have z9 := H2.out.1.z 9
  have z10 := H2.out.1.z 10
  have q0 : wn.cell? ⟨Q, 0, none⟩ = some (.int .i64 A.rate) := by rw [cell_of_row _ _ _ _ _ _ H2.out.2.2.1]; rfl
  have q1 : wn.cell? ⟨Q, 1, none⟩ = some (.int .i64 A.ch) := by rw [cell_of_row _ _ _ _ _ _ H2.out.2.2.1]; rfl
  have q2 : wn.cell? ⟨Q, 2, none⟩ = some (.int .i64 A.wd) := by rw [cell_of_row _ _ _ _ _ _ H2.out.2.2.1]; rfl
  have HP : Hid (∀ wx, wx = (((wn.setCell ⟨b, 6, none⟩ (.bool true)).setCell ⟨b, 8, none⟩ (.int .i64 A.rate)).setCell ⟨b, 9, none⟩ (.int .i64 A.ch)).setCell ⟨b, 10, none⟩ (.int .i64 A.wd) → Fa b { f with hf := true, a := A } wx ∧ But b w wx) := fun wx hx => by
    subst hx
    refine ⟨?_, (((H2.out.2.1.trans (But.set _ _ _ _)).trans (But.set _ _ _ _)).trans (But.set _ _ _ _)).trans (But.set _ _ _ _)⟩
    exact (((H2.out.1.set (g := { f with hf := true }) 6 (.bool true) rfl).set (g := { f with hf := true, a := { f.a with rate := A.rate } }) 8 (.int .i64 A.rate) rfl).set (g := { f with hf := true, a := { f.a with rate := A.rate, ch := A.ch } }) 9 (.int .i64 A.ch) rfl).set 10 (.int .i64 A.wd) rfl
  go_region
  all_goals go_wp2_with fail
  all_goals go_ret
  all_goals exact ⟨by rw [HR.out]; rfl, by rw [HR.out]; exact ⟨(HP.out _ rfl).1.at'⟩, (HP.out _ rfl).2.trans ⟨rfl, rfl, rfl, Nat.le_refl _, fun _ _ _ => rfl⟩⟩

theorem takeFmt_spec (f : Fst) (s : ByteArray) (hs : s.size ≤ 140737488351232) (b : Nat) (w : World) (h : Fa b f w) :
    Calls Tryz.prog 101 #[.pointer (some ⟨b, 0, none⟩), .string s] w fun e w' => e = .returned (.int .i64 (takeFmtN f s).2) ∧ Fa b (takeFmtN f s).1 w' ∧ But b w w' := by
  cases hf : f.hf
  · exact takeFmt_new f s hs b w h hf
  · exact takeFmt_again f s b w h hf

set_option maxRecDepth 20000 in
set_option maxHeartbeats 3200000 in
theorem takeData_none (f : Fst) (s : ByteArray) (b : Nat) (w : World) (h : Fa b f w) (hf : f.hf = false) :
    Calls Tryz.prog 102 #[.pointer (some ⟨b, 0, none⟩), .string s] w fun e w' => e = .returned (.int .i64 (takeDataN f s).2) ∧ Fa b (takeDataN f s).1 w' ∧ But b w w' := by
  have HR : Hid (takeDataN f s = (f, 2)) := by show _ = _; unfold takeDataN; rw [hf]; rfl
  have HF : Hid (Fa b f w) := h
  have c6 : w.cell? ⟨b, 6, none⟩ = some (.bool false) := by rw [h.c 6 _ rfl]; simp [hf]
  clear h hf
  go_enter Tryz.func102, Tryz.ntmps102
  go_wp2_with fail
  go_ret
  exact ⟨by rw [HR.out]; rfl, by rw [HR.out]; exact HF.out, But.refl _ _⟩
set_option maxRecDepth 20000 in
set_option maxHeartbeats 3200000 in
theorem takeData_again (f : Fst) (s : ByteArray) (b : Nat) (w : World) (h : Fa b f w) (hf : f.hf = true) (hd : f.hd = true) :
    Calls Tryz.prog 102 #[.pointer (some ⟨b, 0, none⟩), .string s] w fun e w' => e = .returned (.int .i64 (takeDataN f s).2) ∧ Fa b (takeDataN f s).1 w' ∧ But b w w' := by
  have HR : Hid (takeDataN f s = (f, 2)) := by show _ = _; unfold takeDataN; rw [hf, hd]; rfl
  have HF : Hid (Fa b f w) := h
  have c6 : w.cell? ⟨b, 6, none⟩ = some (.bool true) := by rw [h.c 6 _ rfl]; simp [hf]
  have c7 : w.cell? ⟨b, 7, none⟩ = some (.bool true) := by rw [h.c 7 _ rfl]; simp [hd]
  clear h hf hd
  go_enter Tryz.func102, Tryz.ntmps102
  go_wp2_with fail
  go_ret
  exact ⟨by rw [HR.out]; rfl, by rw [HR.out]; exact HF.out, But.refl _ _⟩

set_option maxRecDepth 20000 in
set_option maxHeartbeats 3200000 in
theorem takeData_long_no (f : Fst) (s : ByteArray) (b : Nat) (w : World) (h : Fa b f w) (hf : f.hf = true) (hd : f.hd = false) (hl : longB f = true) (hn : ((s.size : Int) != f.z.fl) = true) :
    Calls Tryz.prog 102 #[.pointer (some ⟨b, 0, none⟩), .string s] w fun e w' => e = .returned (.int .i64 (takeDataN f s).2) ∧ Fa b (takeDataN f s).1 w' ∧ But b w w' := by
  have HR : Hid (takeDataN f s = (f, 2)) := by show _ = _; unfold takeDataN; rw [hf, hd, hl, hn]; rfl
  have HF : Hid (Fa b f w) := h
  have c6 : w.cell? ⟨b, 6, none⟩ = some (.bool true) := by rw [h.c 6 _ rfl]; simp [hf]
  have c7 : w.cell? ⟨b, 7, none⟩ = some (.bool false) := by rw [h.c 7 _ rfl]; simp [hd]
  have c2 := h.c 2 _ rfl
  have kl := isLong_spec f b w h
  rw [hl] at kl
  clear h hf hd
  go_enter Tryz.func102, Tryz.ntmps102
  go_wp2_with fail
  refine kl.mono ?_
  rintro e w2 ⟨rfl, rfl⟩
  clear kl
  go_wp2_with fail
  go_ret
  exact ⟨by rw [HR.out]; rfl, by rw [HR.out]; exact HF.out, But.refl _ _⟩

set_option maxRecDepth 20000 in
set_option maxHeartbeats 3200000 in
theorem takeData_long (f : Fst) (s : ByteArray) (b : Nat) (w : World) (h : Fa b f w) (hf : f.hf = true) (hd : f.hd = false) (hl : longB f = true) (hn : ((s.size : Int) != f.z.fl) = false) :
    Calls Tryz.prog 102 #[.pointer (some ⟨b, 0, none⟩), .string s] w fun e w' => e = .returned (.int .i64 (takeDataN f s).2) ∧ Fa b (takeDataN f s).1 w' ∧ But b w w' := by
  have HR : Hid (takeDataN f s = ({ f with hd := true, smp := s }, 0)) := by show _ = _; unfold takeDataN; rw [hf, hd, hl, hn]; rfl
  have HF : Hid (Fa b f w) := h
  have c6 : w.cell? ⟨b, 6, none⟩ = some (.bool true) := by rw [h.c 6 _ rfl]; simp [hf]
  have c7 : w.cell? ⟨b, 7, none⟩ = some (.bool false) := by rw [h.c 7 _ rfl]; simp [hd]
  have c2 := h.c 2 _ rfl
  have c11 := h.c 11 _ rfl
  have z7 := h.z 7
  have z11 := h.z 11
  have kl := isLong_spec f b w h
  rw [hl] at kl
  clear h hf hd
  go_enter Tryz.func102, Tryz.ntmps102
  go_wp2_with fail
  refine kl.mono ?_
  rintro e w2 ⟨rfl, rfl⟩
  clear kl
  go_wp2_with fail
  go_ret
  refine ⟨by rw [HR.out]; rfl, ?_, (But.set _ _ _ _).trans (But.set _ _ _ _)⟩
  rw [HR.out]
  exact (HF.out.set (g := { f with hd := true }) 7 (.bool true) rfl).set 11 (.string s) rfl

set_option maxRecDepth 20000 in
set_option maxHeartbeats 3200000 in
theorem takeData_short (f : Fst) (s : ByteArray) (b : Nat) (w : World) (h : Fa b f w) (hf : f.hf = true) (hd : f.hd = false) (hl : longB f = false) :
    Calls Tryz.prog 102 #[.pointer (some ⟨b, 0, none⟩), .string s] w fun e w' => e = .returned (.int .i64 (takeDataN f s).2) ∧ Fa b (takeDataN f s).1 w' ∧ But b w w' := by
  have HR : Hid (takeDataN f s = ({ f with hd := true, smp := s }, 0)) := by show _ = _; unfold takeDataN; rw [hf, hd, hl]; rfl
  have HF : Hid (Fa b f w) := h
  have c6 : w.cell? ⟨b, 6, none⟩ = some (.bool true) := by rw [h.c 6 _ rfl]; simp [hf]
  have c7 : w.cell? ⟨b, 7, none⟩ = some (.bool false) := by rw [h.c 7 _ rfl]; simp [hd]
  have c2 := h.c 2 _ rfl
  have c11 := h.c 11 _ rfl
  have z7 := h.z 7
  have z11 := h.z 11
  have kl := isLong_spec f b w h
  rw [hl] at kl
  clear h hf hd
  go_enter Tryz.func102, Tryz.ntmps102
  go_wp2_with fail
  refine kl.mono ?_
  rintro e w2 ⟨rfl, rfl⟩
  clear kl
  go_wp2_with fail
  go_ret
  refine ⟨by rw [HR.out]; rfl, ?_, (But.set _ _ _ _).trans (But.set _ _ _ _)⟩
  rw [HR.out]
  exact (HF.out.set (g := { f with hd := true }) 7 (.bool true) rfl).set 11 (.string s) rfl

theorem takeData_spec (f : Fst) (s : ByteArray) (b : Nat) (w : World) (h : Fa b f w) :
    Calls Tryz.prog 102 #[.pointer (some ⟨b, 0, none⟩), .string s] w fun e w' => e = .returned (.int .i64 (takeDataN f s).2) ∧ Fa b (takeDataN f s).1 w' ∧ But b w w' := by
  cases hf : f.hf
  · exact takeData_none f s b w h hf
  · cases hd : f.hd
    · cases hl : longB f
      · exact takeData_short f s b w h hf hd hl
      · cases hn : (s.size : Int) != f.z.fl
        · exact takeData_long f s b w h hf hd hl hn
        · exact takeData_long_no f s b w h hf hd hl hn
    · exact takeData_again f s b w h hf hd

end Go.Proofs.YtfnkdahocehilaaGreat
