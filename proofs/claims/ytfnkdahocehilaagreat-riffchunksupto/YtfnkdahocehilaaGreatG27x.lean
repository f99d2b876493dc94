/- Own text: the walk of end. chunks come to one behind the other, plain. -/
import Derived.Test.YtfnkdahocehilaaGreatQ6take
import Derived.Laws.StructEq
namespace Go.Proofs.YtfnkdahocehilaaGreat
open Go.RowKit
set_option linter.unusedSimpArgs false
set_option linter.unusedVariables false

/-- The file as it was, and memory that grew. -/
structure Je (w0 : World) (b : Nat) (f : Fst) (w : World) : Prop where
  fa : Fa b f w
  below : Below w0.heap.size w0 w
theorem Je.next {w0 w w1 : World} {b : Nat} {f : Fst} (h : Je w0 b f w) (hB : Below w.heap.size w w1) : Je w0 b f w1 := ⟨h.fa.next hB, h.below.trans (hB.mono h.below.size)⟩
set_option maxRecDepth 20000 in
set_option maxHeartbeats 3200000 in
theorem end_none (f : Fst) (b : Nat) (w : World) (h : Fa b f w) (hd : f.hd = false) :
    Calls Tryz.prog 75 #[.pointer (some ⟨b, 0, none⟩)] w fun e w' => e = .returned (.int .i64 (endN f)) ∧ Below w.heap.size w w' := by
  have HR : Hid (endN f = 2) := by show _ = _; unfold endN; rw [hd]; rfl
  have c7 : w.cell? ⟨b, 7, none⟩ = some (.bool false) := by rw [h.c 7 _ rfl]; simp [hd]
  clear h hd
  go_enter Tryz.func75, Tryz.ntmps75
  go_wp2_with fail
  go_ret
  exact ⟨by rw [HR.out]; rfl, Below.refl _ _⟩
set_option maxRecDepth 20000 in
set_option maxHeartbeats 3200000 in
theorem end_short (f : Fst) (b : Nat) (w : World) (h : Fa b f w) (hd : f.hd = true) (hl : longB f = false) :
    Calls Tryz.prog 75 #[.pointer (some ⟨b, 0, none⟩)] w fun e w' => e = .returned (.int .i64 (endN f)) ∧ Below w.heap.size w w' := by
  have HR : Hid (endN f = 0) := by show _ = _; unfold endN; rw [hd, hl]; rfl
  have c7 : w.cell? ⟨b, 7, none⟩ = some (.bool true) := by rw [h.c 7 _ rfl]; simp [hd]
  have kl : ∀ n, Calls Tryz.prog 99 #[.pointer (some ⟨b, 0, none⟩)] (w.drewN n) fun e w' => e = .returned (.bool false) ∧ w' = w.drewN n := fun n => by
    have := isLong_spec f b (w.drewN n) (h.drewN n)
    rw [hl] at this
    exact this
  clear h hd
  go_enter Tryz.func75, Tryz.ntmps75
  go_wp2_with fail
  go_quiet ((go_at_call 99; exact Calls.quiet_of_same (kl _)))
  go_wp2_with fail
  go_ret
  exact ⟨by rw [HR.out]; rfl, below_drewN _ _⟩

set_option maxRecDepth 20000 in
set_option maxHeartbeats 3200000 in
theorem end_long_no (f : Fst) (b : Nat) (w : World) (h : Fa b f w) (hd : f.hd = true) (hl : longB f = true) (hs : f.smp.size ≤ 140737488351232) (ha : FairS f.a) (hb : 0 < blkN f.a) (hq : (f.count != (f.smp.size : Int) / blkN f.a) = true) :
    Calls Tryz.prog 75 #[.pointer (some ⟨b, 0, none⟩)] w fun e w' => e = .returned (.int .i64 (endN f)) ∧ Below w.heap.size w w' := by
  have HR : Hid (endN f = 2) := by show _ = _; unfold endN; rw [hd, hl, hq]; rfl
  have c7 : w.cell? ⟨b, 7, none⟩ = some (.bool true) := by rw [h.c 7 _ rfl]; simp [hd]
  have KL : Hid (∀ wx, Hid (Je w b f wx) → Calls Tryz.prog 99 #[.pointer (some ⟨b, 0, none⟩)] wx fun e w' => e = .returned (.bool true) ∧ Hid (Je w b f w')) := fun wx hx => by
    have := isLong_spec f b wx hx.out.fa
    rw [hl] at this
    exact this.mono fun e w' q => ⟨q.1, by rw [q.2]; exact hx⟩
  have KB : Hid (∀ wx, Hid (Je w b f wx) → Calls Tryz.prog 103 #[.agg #[.int .i64 f.a.rate, .int .i64 f.a.ch, .int .i64 f.a.wd]] wx fun e w' => e = .returned (.int .i64 (blkN f.a)) ∧ Hid (Je w b f w')) := fun wx hx =>
    (block_spec f.a ha wx).mono fun e w' q => ⟨q.1, hx.out.next q.2⟩
  have HS : Hid (∀ wx, Hid (Je w b f wx) → wx.cell? ⟨b, 8, none⟩ = some (.int .i64 f.a.rate) ∧ wx.cell? ⟨b, 9, none⟩ = some (.int .i64 f.a.ch) ∧ wx.cell? ⟨b, 10, none⟩ = some (.int .i64 f.a.wd) ∧ wx.cell? ⟨b, 11, none⟩ = some (.string f.smp) ∧ wx.cell? ⟨b, 12, none⟩ = some (.int .i64 f.count)) := fun wx hx => ⟨hx.out.fa.c 8 _ rfl, hx.out.fa.c 9 _ rfl, hx.out.fa.c 10 _ rfl, hx.out.fa.c 11 _ rfl, hx.out.fa.c 12 _ rfl⟩
  have HD : Hid (Je w b f w.drew) := ⟨⟨h.at'⟩, ⟨rfl, rfl, rfl, Nat.le_refl _, fun _ _ => rfl⟩⟩
  have hle : (f.smp.size : Int) / blkN f.a ≤ (f.smp.size : Int) := Int.ediv_le_self _ (by omega)
  have hge : 0 ≤ (f.smp.size : Int) / blkN f.a := Int.ediv_nonneg (by omega) (by omega)
  have htd : (f.smp.size : Int).tdiv (blkN f.a) = (f.smp.size : Int) / blkN f.a := Int.tdiv_eq_ediv_of_nonneg (by omega)
  generalize blkN f.a = BK at *
  generalize (f.smp.size : Int) / BK = QT at *
  have hwr : IntKind.i64.wrap QT = QT := by rw [IntKind.wrap_i64]; omega
  have hb0 : (BK == 0) = false := by rw [beq_eq_false_iff_ne]; omega
  have hb1 : ¬ BK = 0 := by omega
  clear h hd ha
  go_enter Tryz.func75, Tryz.ntmps75
  go_wp2_with fail
  go_region_held3 (fun wx => wx.cell? ⟨b, 8, none⟩ = some (.int .i64 f.a.rate) ∧ wx.cell? ⟨b, 9, none⟩ = some (.int .i64 f.a.ch) ∧ wx.cell? ⟨b, 10, none⟩ = some (.int .i64 f.a.wd) ∧ wx.cell? ⟨b, 11, none⟩ = some (.string f.smp) ∧ wx.cell? ⟨b, 12, none⟩ = some (.int .i64 f.count)) (exact HS.out _ (by assumption))
    (first
      | (go_at_call 99; refine (KL.out _ (by assumption)).mono ?_; rintro e w4 ⟨rfl, h4⟩)
      | (go_at_call 103; refine (KB.out _ (by assumption)).mono ?_; rintro e w5 ⟨rfl, h5⟩))
  have H5 : Hid (Je w b f w5) := h5
  go_wp2_with fail
  go_ret
  exact ⟨by rw [HR.out]; rfl, H5.out.below⟩

set_option maxRecDepth 20000 in
set_option maxHeartbeats 3200000 in
theorem end_long_yes (f : Fst) (b : Nat) (w : World) (h : Fa b f w) (hd : f.hd = true) (hl : longB f = true) (hs : f.smp.size ≤ 140737488351232) (ha : FairS f.a) (hb : 0 < blkN f.a) (hq : (f.count != (f.smp.size : Int) / blkN f.a) = false) :
    Calls Tryz.prog 75 #[.pointer (some ⟨b, 0, none⟩)] w fun e w' => e = .returned (.int .i64 (endN f)) ∧ Below w.heap.size w w' := by
  have HR : Hid (endN f = 0) := by show _ = _; unfold endN; rw [hd, hl, hq]; rfl
  have c7 : w.cell? ⟨b, 7, none⟩ = some (.bool true) := by rw [h.c 7 _ rfl]; simp [hd]
  have KL : Hid (∀ wx, Hid (Je w b f wx) → Calls Tryz.prog 99 #[.pointer (some ⟨b, 0, none⟩)] wx fun e w' => e = .returned (.bool true) ∧ Hid (Je w b f w')) := fun wx hx => by
    have := isLong_spec f b wx hx.out.fa
    rw [hl] at this
    exact this.mono fun e w' q => ⟨q.1, by rw [q.2]; exact hx⟩
  have KB : Hid (∀ wx, Hid (Je w b f wx) → Calls Tryz.prog 103 #[.agg #[.int .i64 f.a.rate, .int .i64 f.a.ch, .int .i64 f.a.wd]] wx fun e w' => e = .returned (.int .i64 (blkN f.a)) ∧ Hid (Je w b f w')) := fun wx hx =>
    (block_spec f.a ha wx).mono fun e w' q => ⟨q.1, hx.out.next q.2⟩
  have HS : Hid (∀ wx, Hid (Je w b f wx) → wx.cell? ⟨b, 8, none⟩ = some (.int .i64 f.a.rate) ∧ wx.cell? ⟨b, 9, none⟩ = some (.int .i64 f.a.ch) ∧ wx.cell? ⟨b, 10, none⟩ = some (.int .i64 f.a.wd) ∧ wx.cell? ⟨b, 11, none⟩ = some (.string f.smp) ∧ wx.cell? ⟨b, 12, none⟩ = some (.int .i64 f.count)) := fun wx hx => ⟨hx.out.fa.c 8 _ rfl, hx.out.fa.c 9 _ rfl, hx.out.fa.c 10 _ rfl, hx.out.fa.c 11 _ rfl, hx.out.fa.c 12 _ rfl⟩
  have HD : Hid (Je w b f w.drew) := ⟨⟨h.at'⟩, ⟨rfl, rfl, rfl, Nat.le_refl _, fun _ _ => rfl⟩⟩
  have hle : (f.smp.size : Int) / blkN f.a ≤ (f.smp.size : Int) := Int.ediv_le_self _ (by omega)
  have hge : 0 ≤ (f.smp.size : Int) / blkN f.a := Int.ediv_nonneg (by omega) (by omega)
  have htd : (f.smp.size : Int).tdiv (blkN f.a) = (f.smp.size : Int) / blkN f.a := Int.tdiv_eq_ediv_of_nonneg (by omega)
  generalize blkN f.a = BK at *
  generalize (f.smp.size : Int) / BK = QT at *
  have hwr : IntKind.i64.wrap QT = QT := by rw [IntKind.wrap_i64]; omega
  have hb0 : (BK == 0) = false := by rw [beq_eq_false_iff_ne]; omega
  have hb1 : ¬ BK = 0 := by omega
  clear h hd ha
  go_enter Tryz.func75, Tryz.ntmps75
  go_wp2_with fail
  go_region_held3 (fun wx => wx.cell? ⟨b, 8, none⟩ = some (.int .i64 f.a.rate) ∧ wx.cell? ⟨b, 9, none⟩ = some (.int .i64 f.a.ch) ∧ wx.cell? ⟨b, 10, none⟩ = some (.int .i64 f.a.wd) ∧ wx.cell? ⟨b, 11, none⟩ = some (.string f.smp) ∧ wx.cell? ⟨b, 12, none⟩ = some (.int .i64 f.count)) (exact HS.out _ (by assumption))
    (first
      | (go_at_call 99; refine (KL.out _ (by assumption)).mono ?_; rintro e w4 ⟨rfl, h4⟩)
      | (go_at_call 103; refine (KB.out _ (by assumption)).mono ?_; rintro e w5 ⟨rfl, h5⟩))
  have H5 : Hid (Je w b f w5) := h5
  go_wp2_with fail
  go_ret
  exact ⟨by rw [HR.out]; rfl, H5.out.below⟩

/-- Where there is data, fmt's numbers are good. -/
structure OkF (f : Fst) : Prop where
  fair : f.hf = true → GoodS f.a ∧ 0 < blkN f.a
  data : f.hd = true → f.hf = true
theorem end_spec (f : Fst) (b : Nat) (w : World) (h : Fa b f w) (hok : OkF f) (hs : f.smp.size ≤ 140737488351232) :
    Calls Tryz.prog 75 #[.pointer (some ⟨b, 0, none⟩)] w fun e w' => e = .returned (.int .i64 (endN f)) ∧ Below w.heap.size w w' := by
  cases hd : f.hd
  · exact end_none f b w h hd
  · have hg := hok.fair (hok.data hd)
    cases hl : longB f
    · exact end_short f b w h hd hl
    · cases hq : f.count != (f.smp.size : Int) / blkN f.a
      · exact end_long_yes f b w h hd hl hs hg.1.fair hg.2 hq
      · exact end_long_no f b w h hd hl hs hg.1.fair hg.2 hq

end Go.Proofs.YtfnkdahocehilaaGreat

namespace Go.Proofs.YtfnkdahocehilaaGreat
open Go.RowKit
set_option linter.unusedSimpArgs false
set_option linter.unusedVariables false

def sndB (a b : Snd) : Bool := a.rate == b.rate && (a.ch == b.ch && a.wd == b.wd)
theorem und_sound : Tryz.prog.underlying 73 = some (.struct (Tryz.prog.fieldsOf 73)) := by kernel_rfl
theorem eq_snd (a b : Snd) (w : World) : (Op.equalIn 10000 73 (.agg #[.int .i64 a.rate, .int .i64 a.ch, .int .i64 a.wd]) (.agg #[.int .i64 b.rate, .int .i64 b.ch, .int .i64 b.wd])).run Tryz.prog w = .ok (sndB a b) w := by
  unfold sndB
  rw [run_equalIn_struct w 9999 73 _ _ und_sound (by kernel_rfl)]
  cases h1 : a.rate == b.rate <;> cases h2 : a.ch == b.ch <;> cases h3 : a.wd == b.wd <;> go_simp
theorem sndB_eq (a b : Snd) : sndB a b = true ↔ a = b := by
  unfold sndB
  rw [Bool.and_eq_true_iff, Bool.and_eq_true_iff, beq_iff_eq, beq_iff_eq, beq_iff_eq]
  constructor
  · rintro ⟨h1, h2, h3⟩
    cases a
    cases b
    simp at h1 h2 h3
    rw [h1, h2, h3]
  · rintro rfl
    exact ⟨rfl, rfl, rfl⟩
theorem eql_snd (a b : Snd) (w : World) : (binOp .eql 73 (.agg #[.int .i64 a.rate, .int .i64 a.ch, .int .i64 a.wd]) (.agg #[.int .i64 b.rate, .int .i64 b.ch, .int .i64 b.wd])).run Tryz.prog w = .ok (.bool (sndB a b)) w := by
  rw [run_eql_struct, eq_snd]
  rfl
/-- Chunks, each come to. -/
def hasN (f : Fst) : List Chk → Fst × Bool
  | [] => (f, true)
  | c :: t => if (takeN f c).2 = 0 then hasN (takeN f c).1 t else ((takeN f c).1, false)
def hasB (f : Fst) (l : List Chk) (a : Snd) : Bool := (hasN f l).2 && (endN (hasN f l).1 == 0 && sndB (hasN f l).1.a a)
theorem hasN_yes (f : Fst) (c : Chk) (t : List Chk) (h : (takeN f c).2 = 0) : hasN f (c :: t) = hasN (takeN f c).1 t := by rw [hasN, if_pos h]
theorem hasN_no (f : Fst) (c : Chk) (t : List Chk) (h : ¬ (takeN f c).2 = 0) : hasN f (c :: t) = ((takeN f c).1, false) := by rw [hasN, if_neg h]
theorem takeSizesN_seen (f : Fst) (s : ByteArray) : (takeSizesN f s).1.seen = f.seen := by
  unfold takeSizesN
  split
  · rfl
  · split
    · rfl
    · split <;> rfl
theorem takeFmtN_seen (f : Fst) (s : ByteArray) : (takeFmtN f s).1.seen = f.seen := by unfold takeFmtN; split <;> rfl
theorem takeDataN_seen (f : Fst) (s : ByteArray) : (takeDataN f s).1.seen = f.seen := by unfold takeDataN; split <;> rfl
theorem takeN_seen (f : Fst) (c : Chk) : (takeN f c).1.seen = f.seen + 1 := by
  unfold takeN
  split
  · rfl
  · split
    · exact takeSizesN_seen _ _
    · split
      · exact takeFmtN_seen _ _
      · split
        · exact takeDataN_seen _ _
        · rfl
theorem snd_zero (s : ByteArray) (h : sndE s = 0) : sndA s = sndR s ∧ 16 ≤ s.size ∧ supB (sndR s) = true ∧ (sndR s).ch ≠ 0 ∧ (sndR s).rate ≠ 0 ∧ (sndR s).wd ≠ 0 := by
  refine ⟨by unfold sndA; rw [if_pos h], ?_⟩
  unfold sndE at h
  by_cases h1 : s.size < 16
  · rw [if_pos h1] at h
    cases h
  · rw [if_neg h1] at h
    split at h
    · cases h
    · split at h
      · cases h
      · split at h
        · cases h
        · rename_i hz
          split at h
          · rename_i hs
            simp only [Bool.or_eq_true, beq_iff_eq, not_or] at hz
            exact ⟨by omega, hs, hz.1, hz.2.1, hz.2.2⟩
          · cases h
theorem snd_good (s : ByteArray) (h : sndE s = 0) : GoodS (sndA s) ∧ 0 < blkN (sndA s) := by
  obtain ⟨e, h16, hs, h1, h2, h3⟩ := snd_zero s h
  rw [e]
  have hg := good_of s h16 hs
  refine ⟨hg, ?_⟩
  have hw := (supB_parts _ hs).2.2
  have hc : 1 ≤ (sndR s).ch := by have := hg.fair.c0; omega
  have hw8 : 8 ≤ (sndR s).wd := by omega
  unfold blkN
  have : 1 * 8 ≤ (sndR s).ch * (sndR s).wd := Int.mul_le_mul hc hw8 (by decide) (by omega)
  omega
theorem OkF.seen {f : Fst} (h : OkF f) : OkF (seenN f) := ⟨h.fair, h.data⟩
theorem takeN_ok (f : Fst) (c : Chk) (h : OkF f) (he : (takeN f c).2 = 0) : OkF (takeN f c).1 := by
  unfold takeN at he ⊢
  split
  · exact h.seen
  · rename_i h1
    rw [if_neg h1] at he
    split
    · unfold takeSizesN
      split
      · exact h.seen
      · split
        · exact h.seen
        · split
          · exact h.seen
          · exact ⟨h.fair, h.data⟩
    · rename_i h2
      rw [if_neg h2] at he
      split
      · rename_i h3
        rw [if_pos h3] at he
        unfold takeFmtN at he ⊢
        split
        · exact h.seen
        · rename_i h4
          rw [if_neg h4] at he
          exact ⟨fun _ => snd_good _ he, fun _ => rfl⟩
      · rename_i h3
        rw [if_neg h3] at he
        split
        · rename_i h4
          rw [if_pos h4] at he
          unfold takeDataN at he ⊢
          split
          · exact h.seen
          · rename_i h5
            refine ⟨h.fair, fun _ => ?_⟩
            have hf : (seenN f).hf = true := by
              cases q : (seenN f).hf
              · rw [q] at h5
                exact absurd rfl h5
              · rfl
            exact hf
        · exact h.seen
theorem takeN_smp (f : Fst) (c : Chk) (N : Nat) (h : f.smp.size ≤ N) (hc : c.body.size ≤ N) : (takeN f c).1.smp.size ≤ N := by
  unfold takeN
  split
  · exact h
  · split
    · unfold takeSizesN
      split
      · exact h
      · split
        · exact h
        · split <;> exact h
    · split
      · unfold takeFmtN
        split <;> exact h
      · split
        · unfold takeDataN
          split
          · exact h
          · exact hc
        · exact h
theorem ChksAt.keep {w w' : World} {ao : Option Addr} {l : List Chk} (h : ChksAt w ao l) {b : Nat} (hb : But b w w') (hne : ∀ b' off, ao = some ⟨b', off, none⟩ → b' ≠ b) : ChksAt w' ao l := by
  refine ⟨fun h0 => ?_⟩
  obtain ⟨b', off, e, hc⟩ := h.lies h0
  refine ⟨b', off, e, fun i c hi => ?_⟩
  obtain ⟨h0, h1, h2⟩ := hc i c hi
  have k : ∀ o, w'.cell? ⟨b', o, .none⟩ = w.cell? ⟨b', o, .none⟩ := fun o => World.cell?_of_block (w := w) (hb.block b' (lt_cell h0) (fun q => hne b' off e (by simpa using q)))
  exact ⟨by rw [k]; exact h0, by rw [k]; exact h1, by rw [k]; exact h2⟩

end Go.Proofs.YtfnkdahocehilaaGreat
