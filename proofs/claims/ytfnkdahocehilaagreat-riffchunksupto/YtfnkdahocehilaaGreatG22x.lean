/- Own text: the walk of bare. what is known of a file, plain; the walks of isLong and head. the walk of takeSizes. -/
import Derived.Test.YtfnkdahocehilaaGreatQ6own
import Derived.Test.YtfnkdahocehilaaGreatG19x
import Derived.BigQuiet
namespace Go.Proofs.YtfnkdahocehilaaGreat
open Go.RowKit
set_option linter.unusedSimpArgs false
set_option linter.unusedVariables false

theorem two_row (w : World) (o : Obj) (d : Array Value) : ((w.alloc o).alloc (.cells d 52)).heap[w.heap.size + 1]? = some (.cells d 52 (0, 0)) := by
  rw [← show (w.alloc o).heap.size = w.heap.size + 1 from by simp]
  exact heap_alloc_new _ _

set_option maxRecDepth 20000 in
set_option maxHeartbeats 3200000 in
theorem bare_data (c : Chk) (h : (c.id.toList == idData.toList) = true) (w : World) :
    Calls Tryz.prog 89 #[chkV c] w fun e w' => e = .returned (chkV ⟨c.id, ⟨#[]⟩, c.pad⟩) ∧ Below w.heap.size w w' := by
  have h2 : (c.id.toList == [100, 97, 116, 97]) = true := by rw [idData_list] at h; exact h
  go_enter Tryz.func89, Tryz.ntmps89
  go_wp2_with fail
  exact bodyPost_ret (v := chkV ⟨c.id, ⟨#[]⟩, c.pad⟩) (one_ret (w0 := w) (two_row w _ _) _ rfl rfl) rfl ⟨rfl, ((Below.refl _ _).alloc (Nat.le_refl _) _).alloc (by simp) _⟩

set_option maxRecDepth 20000 in
set_option maxHeartbeats 3200000 in
theorem bare_other (c : Chk) (h : (c.id.toList == idData.toList) = false) (w : World) :
    Calls Tryz.prog 89 #[chkV c] w fun e w' => e = .returned (chkV c) ∧ Below w.heap.size w w' := by
  have h2 : (c.id.toList == [100, 97, 116, 97]) = false := by rw [idData_list] at h; exact h
  go_enter Tryz.func89, Tryz.ntmps89
  go_wp2_with fail
  exact bodyPost_ret (v := chkV c) (one_ret (w0 := w) (two_row w _ _) _ rfl rfl) rfl ⟨rfl, ((Below.refl _ _).alloc (Nat.le_refl _) _).alloc (by simp) _⟩

def bareC (c : Chk) : Chk := if c.id.toList == idData.toList then ⟨c.id, ⟨#[]⟩, c.pad⟩ else c
theorem bare_spec (c : Chk) (w : World) : Calls Tryz.prog 89 #[chkV c] w fun e w' => e = .returned (chkV (bareC c)) ∧ Below w.heap.size w w' := by
  unfold bareC
  cases h : c.id.toList == idData.toList
  · exact bare_other c h w
  · exact bare_data c h w

end Go.Proofs.YtfnkdahocehilaaGreat

namespace Go.Proofs.YtfnkdahocehilaaGreat
open Go.RowKit
set_option linter.unusedSimpArgs false
set_option linter.unusedVariables false

/-- What is known of a file. -/
structure Fst where
  z : Siz
  form : ByteArray
  behind : Int
  seen : Int
  hf : Bool
  hd : Bool
  a : Snd
  smp : ByteArray
  count : Int
abbrev fileC (f : Fst) : Array Value := #[.bool f.z.big, .string f.z.far, .int .i64 f.z.fl, .string f.form, .int .i64 f.behind, .int .i64 f.seen, .bool f.hf, .bool f.hd, .int .i64 f.a.rate, .int .i64 f.a.ch, .int .i64 f.a.wd, .string f.smp, .int .i64 f.count]
def rf64 : ByteArray := ⟨#[82, 70, 54, 52]⟩
def riffT : ByteArray := ⟨#[82, 73, 70, 70]⟩
def waveT : ByteArray := ⟨#[87, 65, 86, 69]⟩
def idFmt : ByteArray := ⟨#[102, 109, 116, 32]⟩
def idSizes : ByteArray := ⟨#[100, 115, 54, 52]⟩
theorem rf64_list : rf64.toList = [82, 70, 54, 52] := by rw [ByteArray.toList_eq]; rfl
theorem riff_list : riffT.toList = [82, 73, 70, 70] := by rw [ByteArray.toList_eq]; rfl
theorem fmt_list : idFmt.toList = [102, 109, 116, 32] := by rw [ByteArray.toList_eq]; rfl
theorem sizes_list : idSizes.toList = [100, 115, 54, 52] := by rw [ByteArray.toList_eq]; rfl
def longB (f : Fst) : Bool := f.form.toList == rf64.toList
def shortB (f : Fst) : Bool := f.form.toList == riffT.toList
def headN (f : Fst) : ByteArray × Bool := if shortB f then (f.form ++ leT f.behind 4 ++ waveT, wE f.behind 4 == 0) else if longB f then (f.form ++ leT 4294967295 4 ++ waveT, true) else (⟨#[]⟩, false)
def takeSizesN (f : Fst) (s : ByteArray) : Fst × Int :=
  if (s.size : Int) != 28 then (f, 2) else if leI (s.extract 0 8) != f.behind then (f, 2) else if leI (s.extract 24 s.size) != 0 then (f, 2)
  else ({ f with z := { f.z with far := idData, fl := leI (s.extract 8 16) }, count := leI (s.extract 16 24) }, 0)
def takeFmtN (f : Fst) (s : ByteArray) : Fst × Int := if f.hf then (f, 2) else ({ f with hf := true, a := sndA s }, sndE s)
def takeDataN (f : Fst) (s : ByteArray) : Fst × Int := if !f.hf || (f.hd || (longB f && (s.size : Int) != f.z.fl)) then (f, 2) else ({ f with hd := true, smp := s }, 0)
def seenN (f : Fst) : Fst := { f with seen := f.seen + 1 }
def takeN (f : Fst) (c : Chk) : Fst × Int :=
  if longB f && ((f.seen + 1 == 1) != (c.id.toList == idSizes.toList)) then (seenN f, 2)
  else if longB f && (f.seen + 1 == 1) then takeSizesN (seenN f) c.body
  else if c.id.toList == idFmt.toList then takeFmtN (seenN f) c.body
  else if c.id.toList == idData.toList then takeDataN (seenN f) c.body
  else (seenN f, 0)
def endN (f : Fst) : Int := if f.hd then (if longB f && f.count != (f.smp.size : Int) / blkN f.a then 2 else 0) else 2

/-- A file in a block. -/
structure Fa (b : Nat) (f : Fst) (w : World) : Prop where
  at' : w.heap[b]? = some (.cells (fileC f) 83 (0, 0))
theorem Fa.c {w : World} {b : Nat} {f : Fst} (h : Fa b f w) (j : Nat) (v : Value) (hv : (fileC f)[j]? = some v) : w.cell? ⟨b, j, none⟩ = some v := by rw [cell_of_row _ _ _ _ _ _ h.at']; exact hv
theorem Fa.z {w : World} {b : Nat} {f : Fst} (h : Fa b f w) (j : Nat) : w.frozen? ⟨b, j, none⟩ = false := by
  have := h.at'
  simp [World.frozen?, this]
theorem Fa.lt {w : World} {b : Nat} {f : Fst} (h : Fa b f w) : b < w.heap.size := lt_of_block h.at'
theorem Fa.next {w w' : World} {b : Nat} {f : Fst} (h : Fa b f w) (hB : Below w.heap.size w w') : Fa b f w' := ⟨by rw [hB.block _ h.lt]; exact h.at'⟩
theorem Fa.set {w : World} {b : Nat} {f g : Fst} (h : Fa b f w) (j : Nat) (v : Value) (e : (fileC f).setIfInBounds j v = fileC g) : Fa b g (w.setCell ⟨b, j, none⟩ v) := ⟨by rw [block_set _ _ _ _ _ _ h.at', e]⟩
/-- All but the file's block is as it was. -/
abbrev But (b : Nat) (w w' : World) : Prop := w.grownBy w' (some b)
theorem But.refl (b : Nat) (w : World) : But b w w := ⟨rfl, rfl, rfl, Nat.le_refl _, fun _ _ _ => rfl⟩
theorem But.trans {b : Nat} {w w1 w2 : World} (h : But b w w1) (k : But b w1 w2) : But b w w2 :=
  ⟨k.os.trans h.os, k.tape.trans h.tape, k.output.trans h.output, Nat.le_trans h.size k.size, fun i hi hn => (k.block i (Nat.lt_of_lt_of_le hi h.size) hn).trans (h.block i hi hn)⟩
theorem But.below {b : Nat} {w w1 : World} (h : Below w.heap.size w w1) : But b w w1 := ⟨h.os, h.tape, h.output, h.size, fun k hk _ => h.block k hk⟩
theorem But.set (b : Nat) (w : World) (j : Nat) (v : Value) : But b w (w.setCell ⟨b, j, none⟩ v) := by
  have h : Below b w (w.setCell ⟨b, j, none⟩ v) := (Below.refl b w).setCell (p := ⟨b, j, none⟩) (Nat.le_refl b) v
  refine ⟨h.os, h.tape, h.output, h.size, fun k hk hn => ?_⟩
  exact Below.heap_setCell _ _ _ _ (fun q => hn (by rw [show k = b from q]))

set_option maxRecDepth 20000 in
set_option maxHeartbeats 3200000 in
theorem isLong_spec (f : Fst) (b : Nat) (w : World) (h : Fa b f w) :
    Calls Tryz.prog 99 #[.pointer (some ⟨b, 0, none⟩)] w fun e w' => e = .returned (.bool (longB f)) ∧ w' = w := by
  have c3 := h.c 3 _ rfl
  have HL : Hid (longB f = (f.form.toList == [82, 70, 54, 52])) := by show _ = _; unfold longB; rw [rf64_list]
  clear h
  go_enter Tryz.func99, Tryz.ntmps99
  go_wp2_with fail
  go_ret
  exact ⟨by rw [HL.out]; rfl, rfl⟩

set_option maxRecDepth 20000 in
set_option maxHeartbeats 3200000 in
theorem head_short (f : Fst) (b : Nat) (w : World) (h : Fa b f w) (hs : f.form.size ≤ 140737488355328) (hb1 : -9223372036854775808 ≤ f.behind) (hb2 : f.behind ≤ 9223372036854775807) (hq : shortB f = true) :
    Calls Tryz.prog 39 #[.pointer (some ⟨b, 0, none⟩)] w fun e w' => e = .returned (.tuple #[.string (headN f).1, .bool (headN f).2]) ∧ Below w.heap.size w w' := by
  have HH : Hid (headN f = (f.form ++ leT f.behind 4 ++ waveT, wE f.behind 4 == 0)) := by show _ = _; unfold headN; rw [hq]; rfl
  have hqb : (f.form.toList == [82, 73, 70, 70]) = true := by unfold shortB at hq; rw [riff_list] at hq; exact hq
  have c3 := h.c 3 _ rfl
  have c4 := h.c 4 _ rfl
  have kl := le_spec f.behind 4 hb1 hb2 w
  have hz := leT_size f.behind 4
  have HF : Hid (Fa b f w) := h
  generalize leT f.behind 4 = T at *
  generalize wE f.behind 4 = E at *
  have k1 : ¬ (9223372036854775807 < f.form.size + T.size) := by omega
  have k2 : ¬ (9223372036854775807 < f.form.size + T.size + 4) := by omega
  clear h hq hz hs hb1 hb2
  go_enter Tryz.func39, Tryz.ntmps39
  go_wp2_with fail
  refine kl.mono ?_
  rintro e w2 ⟨rfl, hB⟩
  have HB : Hid (Below w.heap.size w w2) := hB
  have d3 := (HF.out.next hB).c 3 _ rfl
  clear kl hB c3 c4
  go_wp2_with fail
  go_ret2
  exact ⟨by rw [HH.out]; rfl, HB.out⟩

set_option maxRecDepth 20000 in
set_option maxHeartbeats 3200000 in
theorem head_long (f : Fst) (b : Nat) (w : World) (h : Fa b f w) (hs : f.form.size ≤ 140737488355328) (hn : shortB f = false) (hq : longB f = true) :
    Calls Tryz.prog 39 #[.pointer (some ⟨b, 0, none⟩)] w fun e w' => e = .returned (.tuple #[.string (headN f).1, .bool (headN f).2]) ∧ Below w.heap.size w w' := by
  have HH : Hid (headN f = (f.form ++ leT 4294967295 4 ++ waveT, true)) := by show _ = _; unfold headN; rw [hn, hq]; rfl
  have hqa : (f.form.toList == [82, 73, 70, 70]) = false := by unfold shortB at hn; rw [riff_list] at hn; exact hn
  have hqb : (f.form.toList == [82, 70, 54, 52]) = true := by unfold longB at hq; rw [rf64_list] at hq; exact hq
  have c3 := h.c 3 _ rfl
  have kl := le_spec 4294967295 4 (by decide) (by decide) w
  have hz := leT_size 4294967295 4
  have hE : wE 4294967295 4 = 0 := wE_yes _ _ (by decide)
  rw [hE] at kl
  have HF : Hid (Fa b f w) := h
  generalize leT 4294967295 4 = T at *
  have k1 : ¬ (9223372036854775807 < f.form.size + T.size) := by omega
  have k2 : ¬ (9223372036854775807 < f.form.size + T.size + 4) := by omega
  clear h hq hz hs hn
  go_enter Tryz.func39, Tryz.ntmps39
  go_wp2_with fail
  refine kl.mono ?_
  rintro e w2 ⟨rfl, hB⟩
  have HB : Hid (Below w.heap.size w w2) := hB
  have d3 := (HF.out.next hB).c 3 _ rfl
  clear kl hB c3
  go_wp2_with fail
  go_ret2
  exact ⟨by rw [HH.out]; rfl, HB.out⟩

set_option maxRecDepth 20000 in
set_option maxHeartbeats 3200000 in
theorem head_none (f : Fst) (b : Nat) (w : World) (h : Fa b f w) (hn : shortB f = false) (hq : longB f = false) :
    Calls Tryz.prog 39 #[.pointer (some ⟨b, 0, none⟩)] w fun e w' => e = .returned (.tuple #[.string (headN f).1, .bool (headN f).2]) ∧ Below w.heap.size w w' := by
  have HH : Hid (headN f = (⟨#[]⟩, false)) := by show _ = _; unfold headN; rw [hn, hq]; rfl
  have hqa : (f.form.toList == [82, 73, 70, 70]) = false := by unfold shortB at hn; rw [riff_list] at hn; exact hn
  have hqb : (f.form.toList == [82, 70, 54, 52]) = false := by unfold longB at hq; rw [rf64_list] at hq; exact hq
  have c3 := h.c 3 _ rfl
  clear h hq hn
  go_enter Tryz.func39, Tryz.ntmps39
  go_wp2_with fail
  go_ret2
  exact ⟨by rw [HH.out]; rfl, Below.refl _ _⟩
theorem head_spec (f : Fst) (b : Nat) (w : World) (h : Fa b f w) (hs : f.form.size ≤ 140737488355328) (hb1 : -9223372036854775808 ≤ f.behind) (hb2 : f.behind ≤ 9223372036854775807) :
    Calls Tryz.prog 39 #[.pointer (some ⟨b, 0, none⟩)] w fun e w' => e = .returned (.tuple #[.string (headN f).1, .bool (headN f).2]) ∧ Below w.heap.size w w' := by
  cases h1 : shortB f
  · cases h2 : longB f
    · exact head_none f b w h h1 h2
    · exact head_long f b w h hs h1 h2
  · exact head_short f b w h hs hb1 hb2 h1

end Go.Proofs.YtfnkdahocehilaaGreat

namespace Go.Proofs.YtfnkdahocehilaaGreat
open Go.RowKit
set_option linter.unusedSimpArgs false
set_option linter.unusedVariables false

theorem But.drewN (b : Nat) (w : World) (n : Nat) : But b w (w.drewN n) := ⟨rfl, rfl, rfl, Nat.le_refl _, fun _ _ _ => rfl⟩
theorem Fa.drewN {w : World} {b : Nat} {f : Fst} (h : Fa b f w) (n : Nat) : Fa b f (w.drewN n) := ⟨h.at'⟩

set_option maxRecDepth 20000 in
set_option maxHeartbeats 3200000 in
theorem takeSizes_len (f : Fst) (s : ByteArray) (b : Nat) (w : World) (h : Fa b f w) (hz : ((s.size : Int) != 28) = true) :
    Calls Tryz.prog 100 #[.pointer (some ⟨b, 0, none⟩), .string s] w fun e w' => e = .returned (.int .i64 (takeSizesN f s).2) ∧ Fa b (takeSizesN f s).1 w' ∧ But b w w' := by
  have HR : Hid (takeSizesN f s = (f, 2)) := by show _ = _; unfold takeSizesN; rw [hz]; rfl
  have HF : Hid (Fa b f w) := h
  clear h
  go_enter Tryz.func100, Tryz.ntmps100
  go_wp2_with fail
  go_quiet (fail)
  go_wp2_with fail
  go_ret
  exact ⟨by rw [HR.out]; rfl, by rw [HR.out]; exact HF.out.drewN _, But.drewN _ _ _⟩

set_option maxRecDepth 20000 in
set_option maxHeartbeats 3200000 in
theorem takeSizes_first (f : Fst) (s : ByteArray) (b : Nat) (w : World) (h : Fa b f w) (hz : s.size = 28) (h1 : (leI (s.extract 0 8) != f.behind) = true) :
    Calls Tryz.prog 100 #[.pointer (some ⟨b, 0, none⟩), .string s] w fun e w' => e = .returned (.int .i64 (takeSizesN f s).2) ∧ Fa b (takeSizesN f s).1 w' ∧ But b w w' := by
  have k1 := fun w => fromLe_spec (s.extract 0 8) (by rw [ext_size _ _ _ (by omega) (by omega)]; decide) w
  have k2 := fun w => fromLe_spec (s.extract 24 s.size) (by rw [ext_size _ _ _ (by omega) (by omega)]; omega) w
  have hs1 : ∀ w, (Instr.slice 9 (.string s) none (some (.int .i64 8)) none).run Tryz.prog w = .ok (.string (s.extract 0 8)) w := fun w => slice_upto s 8 (by omega) w
  have hs2 : ∀ w, (Instr.slice 9 (.string s) (some (.int .i64 24)) none none).run Tryz.prog w = .ok (.string (s.extract 24 s.size)) w := fun w => slice_from s 24 (by omega) w
  have E1 : Hid (leI (s.extract 0 8) = fromBe (bytesOf (s.extract 0 8)).reverse) := rfl
  have E2 : Hid (leI (s.extract 24 s.size) = fromBe (bytesOf (s.extract 24 s.size)).reverse) := rfl
  have hzb : ((s.size : Int) != 28) = false := by simp; omega
  have HR : Hid (takeSizesN f s = (f, 2)) := by show _ = _; unfold takeSizesN; rw [hzb, h1]; rfl
  have HF : Hid (Fa b f w) := h
  have c4 := h.c 4 _ rfl
  rw [E1.out] at h1
  generalize fromBe (bytesOf (s.extract 0 8)).reverse = X1 at *
  generalize fromBe (bytesOf (s.extract 24 s.size)).reverse = X2 at *
  clear h hz
  go_enter Tryz.func100, Tryz.ntmps100
  go_wp2_with fail
  go_quiet (first | (go_at_call_of 81 (s.extract 0 8); exact Calls.quiet_of_same (k1 _)) | (go_at_call_of 81 (s.extract 24 s.size); exact Calls.quiet_of_same (k2 _)))
  go_wp2_with fail
  go_ret
  exact ⟨by rw [HR.out]; rfl, by rw [HR.out]; exact HF.out.drewN _, But.drewN _ _ _⟩

set_option maxRecDepth 20000 in
set_option maxHeartbeats 3200000 in
theorem takeSizes_table (f : Fst) (s : ByteArray) (b : Nat) (w : World) (h : Fa b f w) (hz : s.size = 28) (h1 : (leI (s.extract 0 8) != f.behind) = false) (h2 : (leI (s.extract 24 s.size) != 0) = true) :
    Calls Tryz.prog 100 #[.pointer (some ⟨b, 0, none⟩), .string s] w fun e w' => e = .returned (.int .i64 (takeSizesN f s).2) ∧ Fa b (takeSizesN f s).1 w' ∧ But b w w' := by
  have k1 := fun w => fromLe_spec (s.extract 0 8) (by rw [ext_size _ _ _ (by omega) (by omega)]; decide) w
  have k2 := fun w => fromLe_spec (s.extract 24 s.size) (by rw [ext_size _ _ _ (by omega) (by omega)]; omega) w
  have hs1 : ∀ w, (Instr.slice 9 (.string s) none (some (.int .i64 8)) none).run Tryz.prog w = .ok (.string (s.extract 0 8)) w := fun w => slice_upto s 8 (by omega) w
  have hs2 : ∀ w, (Instr.slice 9 (.string s) (some (.int .i64 24)) none none).run Tryz.prog w = .ok (.string (s.extract 24 s.size)) w := fun w => slice_from s 24 (by omega) w
  have E1 : Hid (leI (s.extract 0 8) = fromBe (bytesOf (s.extract 0 8)).reverse) := rfl
  have E2 : Hid (leI (s.extract 24 s.size) = fromBe (bytesOf (s.extract 24 s.size)).reverse) := rfl
  have hzb : ((s.size : Int) != 28) = false := by simp; omega
  have HR : Hid (takeSizesN f s = (f, 2)) := by show _ = _; unfold takeSizesN; rw [hzb, h1, h2]; rfl
  have HF : Hid (Fa b f w) := h
  have c4 := h.c 4 _ rfl
  rw [E1.out] at h1
  rw [E2.out] at h2
  generalize fromBe (bytesOf (s.extract 0 8)).reverse = X1 at *
  generalize fromBe (bytesOf (s.extract 24 s.size)).reverse = X2 at *
  clear h hz
  go_enter Tryz.func100, Tryz.ntmps100
  go_wp2_with fail
  go_quiet (first | (go_at_call_of 81 (s.extract 0 8); exact Calls.quiet_of_same (k1 _)) | (go_at_call_of 81 (s.extract 24 s.size); exact Calls.quiet_of_same (k2 _)))
  go_wp2_with fail
  go_ret
  exact ⟨by rw [HR.out]; rfl, by rw [HR.out]; exact HF.out.drewN _, But.drewN _ _ _⟩

set_option maxRecDepth 20000 in
set_option maxHeartbeats 3200000 in
theorem takeSizes_ok (f : Fst) (s : ByteArray) (b : Nat) (w : World) (h : Fa b f w) (hz : s.size = 28) (h1 : (leI (s.extract 0 8) != f.behind) = false) (h2 : (leI (s.extract 24 s.size) != 0) = false) :
    Calls Tryz.prog 100 #[.pointer (some ⟨b, 0, none⟩), .string s] w fun e w' => e = .returned (.int .i64 (takeSizesN f s).2) ∧ Fa b (takeSizesN f s).1 w' ∧ But b w w' := by
  have k1 := fun w => fromLe_spec (s.extract 0 8) (by rw [ext_size _ _ _ (by omega) (by omega)]; decide) w
  have k2 := fun w => fromLe_spec (s.extract 24 s.size) (by rw [ext_size _ _ _ (by omega) (by omega)]; omega) w
  have hs1 : ∀ w, (Instr.slice 9 (.string s) none (some (.int .i64 8)) none).run Tryz.prog w = .ok (.string (s.extract 0 8)) w := fun w => slice_upto s 8 (by omega) w
  have hs2 : ∀ w, (Instr.slice 9 (.string s) (some (.int .i64 24)) none none).run Tryz.prog w = .ok (.string (s.extract 24 s.size)) w := fun w => slice_from s 24 (by omega) w
  have E1 : Hid (leI (s.extract 0 8) = fromBe (bytesOf (s.extract 0 8)).reverse) := rfl
  have E2 : Hid (leI (s.extract 24 s.size) = fromBe (bytesOf (s.extract 24 s.size)).reverse) := rfl
  have hzb : ((s.size : Int) != 28) = false := by simp; omega
  have HR : Hid (takeSizesN f s = ({ f with z := { f.z with far := idData, fl := leI (s.extract 8 16) }, count := leI (s.extract 16 24) }, 0)) := by show _ = _; unfold takeSizesN; rw [hzb, h1, h2]; rfl
  have k3 := fun w => fromLe_spec (s.extract 8 16) (by rw [ext_size _ _ _ (by omega) (by omega)]; decide) w
  have k4 := fun w => fromLe_spec (s.extract 16 24) (by rw [ext_size _ _ _ (by omega) (by omega)]; decide) w
  have hs3 : ∀ w, (Instr.slice 9 (.string s) (some (.int .i64 8)) (some (.int .i64 16)) none).run Tryz.prog w = .ok (.string (s.extract 8 16)) w := fun w => slice_run s 8 16 (by omega) (by omega) w
  have hs4 : ∀ w, (Instr.slice 9 (.string s) (some (.int .i64 16)) (some (.int .i64 24)) none).run Tryz.prog w = .ok (.string (s.extract 16 24)) w := fun w => slice_run s 16 24 (by omega) (by omega) w
  have HF : Hid (Fa b f w) := h
  have c4 := h.c 4 _ rfl
  rw [E1.out] at h1
  rw [E2.out] at h2
  have E3 : Hid (leI (s.extract 8 16) = fromBe (bytesOf (s.extract 8 16)).reverse) := rfl
  have E4 : Hid (leI (s.extract 16 24) = fromBe (bytesOf (s.extract 16 24)).reverse) := rfl
  rw [E3.out, E4.out] at HR
  generalize fromBe (bytesOf (s.extract 0 8)).reverse = X1 at *
  generalize fromBe (bytesOf (s.extract 24 s.size)).reverse = X2 at *
  generalize fromBe (bytesOf (s.extract 8 16)).reverse = X3 at *
  generalize fromBe (bytesOf (s.extract 16 24)).reverse = X4 at *
  clear h hz
  go_enter Tryz.func100, Tryz.ntmps100
  go_wp2_with fail
  go_quiet (first | (go_at_call_of 81 (s.extract 0 8); exact Calls.quiet_of_same (k1 _)) | (go_at_call_of 81 (s.extract 24 s.size); exact Calls.quiet_of_same (k2 _)))
  generalize hwn : World.drewN w _ = wn
  have HN : Hid (Fa b f wn ∧ But b w wn) := by
    rw [← hwn]
    exact ⟨HF.out.drewN _, But.drewN _ _ _⟩
  have c1 := HN.out.1.c 1 _ rfl
  have c2 := HN.out.1.c 2 _ rfl
  have c12 := HN.out.1.c 12 _ rfl
  have z1 := HN.out.1.z 1
  have z2 := HN.out.1.z 2
  have z12 := HN.out.1.z 12
  clear hwn HF c4
  go_wp2_with fail
  refine (k3 _).mono ?_
  rintro e w3 ⟨rfl, rfl⟩
  clear k3
  go_wp2_with fail
  refine (k4 _).mono ?_
  rintro e w4 ⟨rfl, rfl⟩
  clear k4
  go_wp2_with fail
  go_ret
  refine ⟨by rw [HR.out]; rfl, ?_, ((HN.out.2.trans (But.set _ _ _ _)).trans (But.set _ _ _ _)).trans (But.set _ _ _ _)⟩
  rw [HR.out]
  exact ((HN.out.1.set (g := { f with z := { f.z with far := idData } }) 1 (.string idData) rfl).set (g := { f with z := { f.z with far := idData, fl := X3 } }) 2 (.int .i64 X3) rfl).set 12 (.int .i64 X4) rfl

theorem takeSizes_spec (f : Fst) (s : ByteArray) (b : Nat) (w : World) (h : Fa b f w) :
    Calls Tryz.prog 100 #[.pointer (some ⟨b, 0, none⟩), .string s] w fun e w' => e = .returned (.int .i64 (takeSizesN f s).2) ∧ Fa b (takeSizesN f s).1 w' ∧ But b w w' := by
  cases hz : (s.size : Int) != 28
  · have hz : s.size = 28 := by simp at hz; omega
    cases h1 : leI (s.extract 0 8) != f.behind
    · cases h2 : leI (s.extract 24 s.size) != 0
      · exact takeSizes_ok f s b w h hz h1 h2
      · exact takeSizes_table f s b w h hz h1 h2
    · exact takeSizes_first f s b w h hz h1
  · exact takeSizes_len f s b w h hz

end Go.Proofs.YtfnkdahocehilaaGreat
