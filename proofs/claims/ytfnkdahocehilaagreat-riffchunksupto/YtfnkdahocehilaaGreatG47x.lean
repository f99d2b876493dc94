/- Own text: the walk of Lay. the walk of Plain. a file that is taken apart is built as it was, plain. -/
import Derived.Test.YtfnkdahocehilaaGreatG46x
import Derived.Test.YtfnkdahocehilaaGreatG31x
import Derived.Test.YtfnkdahocehilaaGreatQ6build
namespace Go.Proofs.YtfnkdahocehilaaGreat
open Go.RowKit
set_option linter.unusedSimpArgs false
set_option linter.unusedVariables false

set_option maxRecDepth 20000 in
set_option maxHeartbeats 1600000 in
theorem Lay_spec (l : List Chk) (big : Bool) (ao : Option Addr) (cap : Nat) (w : World) (hl : ChksAt w ao l) (hf : FairL l) (hll : l.length ≤ 9000000000000000) (hsz : sizeL l ≤ 140737488355328) :
    Calls Tryz.prog 8 #[.slice ao l.length cap, .bool big] w fun e w' => e = .returned (.tuple #[.string (layT l big), .int .i64 (layE l)]) ∧ Below w.heap.size w w' := by
  have km := mayStand_spec l ao cap w hl hf hll
  have HL : Hid (ChksAt w ao l ∧ FairL l ∧ sizeL l ≤ 140737488355328) := ⟨hl, hf, hsz⟩
  cases hst : standB l
  · obtain ⟨e1, e2⟩ := stand_not l big hst
    rw [hst] at km
    rw [e1, e2]
    clear hl hf hsz hst e1 e2
    go_enter Tryz.func8, Tryz.ntmps8
    go_wp2_with fail
    refine km.mono ?_
    rintro e w2 ⟨rfl, hB2⟩
    have HB : Hid (Below w.heap.size w w2) := hB2
    clear km hB2
    go_wp2_with fail
    go_ret2
    exact ⟨rfl, HB.out⟩
  · have e1 := stand_lay l hst
    have HT : Hid (textOf (bytesOf ⟨#[]⟩ ++ layZ (zB big) l) = layT l big) := lay_text l big hst
    have HST : Hid (standB l = true) := hst
    rw [hst] at km
    rw [e1]
    clear hl hf hsz hst e1
    generalize layT l big = X at *
    go_enter Tryz.func8, Tryz.ntmps8
    go_wp2_with fail
    refine km.mono ?_
    rintro e w2 ⟨rfl, hB2⟩
    have HB : Hid (Below w.heap.size w w2) := hB2
    have kl := lay_spec (zB big) ⟨#[]⟩ l ao cap w2 (HL.out.1.below hB2) HL.out.2.1 HST.out (by have := HL.out.2.2; show 0 + sizeL l ≤ _; omega)
    rw [HT.out] at kl
    clear km hB2 HT HST
    go_wp2_with fail
    refine kl.mono ?_
    rintro e w3 ⟨rfl, hB3⟩
    have HB3 : Hid (Below w.heap.size w w3) := HB.out.trans (hB3.mono HB.out.size)
    clear kl hB3 HB
    go_wp2_with fail
    go_ret2
    exact ⟨rfl, HB3.out⟩

end Go.Proofs.YtfnkdahocehilaaGreat

namespace Go.Proofs.YtfnkdahocehilaaGreat
open Go.RowKit
set_option linter.unusedSimpArgs false
set_option linter.unusedVariables false

def plainL (p : Pcm) : List Chk := [⟨idFmt, plainT (sndP p), 0⟩, ⟨idData, ⟨#[]⟩, 0⟩]
def plF (p : Pcm) : ByteArray := if fitsN 1 p = 0 then riffT else ⟨#[]⟩
def plL (p : Pcm) : List Chk := if fitsN 1 p = 0 then plainL p else []
/-- What Plain answers. -/
def GivesW (w : World) (p : Pcm) (e : Ending) (w' : World) : Prop := ∃ wo wc, e = .returned (.agg (waveC (plF p) (plL p) wo wc)) ∧ ChksAt w' wo (plL p) ∧ Below w.heap.size w w'
theorem wave_ret {wf : World} {b : Nat} {d : Array Value} (h : wf.heap[b]? = some (.cells d 39 (0, 0))) (hd : d.size = 2) (a' : Act) (h2 : a'.tmps.getD 2 undef = .pointer (some ⟨b, 0, none⟩)) :
    (results Tryz.f18 a'.tmps).run Tryz.prog wf = .ok (.agg d) wf := by
  rw [res_one rfl]
  have hld := run_loadVar_row (P := Tryz.prog) wf b 39 39 d (0, 0) _ h Tryz.underlying39 rfl (by rw [hd]; exact infoW)
  simp [h2, asAddr, Result.andThen, hld]
theorem fits_good (p : Pcm) (h : fitsN 1 p = 0) : checkN p = 0 ∧ GoodS (sndP p) ∧ 1 ≤ p.rate ∧ 1 ≤ p.ch ∧ 0 < blkN (sndP p) ∧ (p.wd = 8 ∨ p.wd = 16 ∨ p.wd = 24 ∨ p.wd = 32) := by
  unfold fitsN at h
  rw [if_pos (show formatB 1 = true from rfl)] at h
  by_cases q : checkN p = 0
  · rw [if_pos q] at h
    obtain ⟨hh, _, _⟩ := check_zero p q
    obtain ⟨r1, r2, c1, c2, w1, w2, _⟩ := head_parts p hh
    cases hf : fitB 1 p.wd
    · rw [hf] at h
      cases h
    · have h8 : p.wd % 8 = 0 := of_decide_eq_true hf
      have hw : p.wd = 8 ∨ p.wd = 16 ∨ p.wd = 24 ∨ p.wd = 32 := by omega
      refine ⟨q, ⟨⟨by show 0 ≤ p.rate; omega, by show p.rate ≤ _; omega, by show 0 ≤ p.ch; omega, c2, by show 0 ≤ p.wd; omega, w2⟩, r2⟩, r1, c1, ?_, hw⟩
      show 0 < p.ch * p.wd / 8
      have : 1 * 8 ≤ p.ch * p.wd := Int.mul_le_mul c1 (by omega) (by decide) (by omega)
      omega
  · rw [if_neg q] at h
    exact absurd h q

set_option maxRecDepth 20000 in
set_option maxHeartbeats 6400000 in
theorem Plain_spec (p : Pcm) (po : Option Addr) (pc : Nat) (w : World) (hr : RowsAt w po p.pl) :
    Calls Tryz.prog 18 #[pcmV p po pc] w (GivesW w p) := by
  have HJ0 : Hid (Jz w (pcmC p po pc) zeroW ((w.alloc (.cells (pcmC p po pc) 37)).alloc (.cells zeroW 39))) := Jz.new2 w _ _
  have kf := fits5_spec 1 p po pc ((w.alloc (.cells (pcmC p po pc) 37)).alloc (.cells zeroW 39)) (hr.below HJ0.out.below)
  clear hr
  go_enter Tryz.func18, Tryz.ntmps18
  go_wp2_with fail
  refine kf.mono ?_
  rintro e w2 ⟨rfl, hB2⟩
  have HJ2 : Hid (Jz w (pcmC p po pc) zeroW w2) := HJ0.out.next hB2
  clear kf hB2 HJ0
  cases hE : fitsN 1 p != 0
  · have hE0 : fitsN 1 p = 0 := by simpa using hE
    have HG := fits_good p hE0
    have ks := soundIn_spec p po pc w2
    have kp := splain_spec (sndP p) HG.2.1.fair
    have HPF : Hid (plF p = ⟨#[82, 73, 70, 70]⟩) := if_pos hE0
    have HPL : Hid (plL p = [⟨⟨#[102, 109, 116, 32]⟩, plainT (sndP p), 0⟩, ⟨⟨#[100, 97, 116, 97]⟩, ⟨#[]⟩, 0⟩]) := if_pos hE0
    have p0 := HJ2.out.p 0 _ rfl
    have p1 := HJ2.out.p 1 _ rfl
    have p2 := HJ2.out.p 2 _ rfl
    have p3 := HJ2.out.p 3 _ rfl
    rw [hE0]
    generalize plainT (sndP p) = PT at *
    clear HG hE hE0
    go_wp2_with fail
    refine ks.mono ?_
    rintro e w3 ⟨rfl, hB3⟩
    have HJ3 : Hid (Jz w (pcmC p po pc) zeroW w3) := HJ2.out.next hB3
    clear ks hB3 HJ2 p0 p1 p2 p3
    go_wp2_with fail
    refine (kp w3).mono ?_
    rintro e w4 ⟨rfl, hB4⟩
    have HJ4 : Hid (Jz w (pcmC p po pc) zeroW w4) := HJ3.out.next hB4
    clear kp hB4 HJ3
    have HJ5 : Hid (Jz w (pcmC p po pc) zeroW ((w4.alloc (.cells #[.string ⟨#[102, 109, 116, 32]⟩, .string PT, .int .i64 0] 52)).alloc (.cells #[.string ⟨#[102, 109, 116, 32]⟩, .string PT, .int .i64 0, .string ⟨#[100, 97, 116, 97]⟩, .string ⟨#[]⟩, .int .i64 0] 52)) ∧ ((w4.alloc (.cells #[.string ⟨#[102, 109, 116, 32]⟩, .string PT, .int .i64 0] 52)).alloc (.cells #[.string ⟨#[102, 109, 116, 32]⟩, .string PT, .int .i64 0, .string ⟨#[100, 97, 116, 97]⟩, .string ⟨#[]⟩, .int .i64 0] 52)).heap[w4.heap.size + 1]? = some (.cells #[.string ⟨#[102, 109, 116, 32]⟩, .string PT, .int .i64 0, .string ⟨#[100, 97, 116, 97]⟩, .string ⟨#[]⟩, .int .i64 0] 52 (0, 0))) := by
      refine ⟨(HJ4.out.next ((Below.refl _ _).alloc (Nat.le_refl _) _)).next ((Below.refl _ _).alloc (Nat.le_refl _) _), ?_⟩
      rw [← show (w4.alloc (.cells #[.string ⟨#[102, 109, 116, 32]⟩, .string PT, .int .i64 0] 52)).heap.size = w4.heap.size + 1 from by simp]
      exact heap_alloc_new _ _
    have x0 := HJ5.out.1.sk 0 _ rfl
    have x1 := HJ5.out.1.sk 1 _ rfl
    have xz0 := HJ5.out.1.wz 0
    have xz1 := HJ5.out.1.wz 1
    have lw := lt_of_block HJ4.out.rw'
    have HLW : Hid (w.heap.size + 1 < w4.heap.size) := lw
    clear HJ4
    go_wp2_with fail
    generalize hw5 : World.alloc (World.alloc w4 _) _ = w5
    have HJ6 : Hid (Jz w (pcmC p po pc) zeroW w5 ∧ w5.heap[w4.heap.size + 1]? = some (.cells #[.string ⟨#[102, 109, 116, 32]⟩, .string PT, .int .i64 0, .string ⟨#[100, 97, 116, 97]⟩, .string ⟨#[]⟩, .int .i64 0] 52 (0, 0))) := by
      rw [← hw5]
      exact HJ5.out
    have HJ7 := (HJ6.out.1.setW 0 (.string ⟨#[82, 73, 70, 70]⟩)).setW 1 (.slice (some ⟨w4.heap.size + 1, 0, none⟩) 2 2)
    have HC : ((w5.setCell ⟨w.heap.size + 1, 0, none⟩ (.string ⟨#[82, 73, 70, 70]⟩)).setCell ⟨w.heap.size + 1, 1, none⟩ (.slice (some ⟨w4.heap.size + 1, 0, none⟩) 2 2)).heap[w4.heap.size + 1]? = some (.cells #[.string ⟨#[102, 109, 116, 32]⟩, .string PT, .int .i64 0, .string ⟨#[100, 97, 116, 97]⟩, .string ⟨#[]⟩, .int .i64 0] 52 (0, 0)) := by
      have := HLW.out
      rw [Below.heap_setCell _ _ _ _ (by show w4.heap.size + 1 ≠ w.heap.size + 1; omega), Below.heap_setCell _ _ _ _ (by show w4.heap.size + 1 ≠ w.heap.size + 1; omega)]
      exact HJ6.out.2
    refine bodyPost_ret (v := .agg #[.string ⟨#[82, 73, 70, 70]⟩, .slice (some ⟨w4.heap.size + 1, 0, none⟩) 2 2]) (wave_ret HJ7.rw' rfl _ rfl) rfl ⟨some ⟨w4.heap.size + 1, 0, none⟩, 2, by rw [HPF.out, HPL.out]; rfl, ?_, HJ7.below⟩
    rw [HPL.out]
    refine ⟨fun _ => ⟨w4.heap.size + 1, 0, rfl, fun i c hi => ?_⟩⟩
    rw [Nat.zero_add]
    match i, hi with
    | 0, hi =>
      cases hi
      exact ⟨by rw [cell_of_row _ _ _ _ _ _ HC]; rfl, by rw [cell_of_row _ _ _ _ _ _ HC]; rfl, by rw [cell_of_row _ _ _ _ _ _ HC]; rfl⟩
    | 1, hi =>
      cases hi
      exact ⟨by rw [cell_of_row _ _ _ _ _ _ HC]; rfl, by rw [cell_of_row _ _ _ _ _ _ HC]; rfl, by rw [cell_of_row _ _ _ _ _ _ HC]; rfl⟩
    | n + 2, hi => simp at hi
  · have HPF : Hid (plF p = ⟨#[]⟩) := if_neg (by simpa using hE)
    have HPL : Hid (plL p = []) := if_neg (by simpa using hE)
    generalize fitsN 1 p = E at *
    have x0 := HJ2.out.sk 0 _ rfl
    have x1 := HJ2.out.sk 1 _ rfl
    have xz0 := HJ2.out.wz 0
    have xz1 := HJ2.out.wz 1
    have HS : Hid ((w2.setCell ⟨w.heap.size + 1, 0, none⟩ (.string ⟨#[]⟩)).setCell ⟨w.heap.size + 1, 1, none⟩ (.slice none 0 0) = w2) := by
      show _ = _
      rw [set_same HJ2.out.rw' rfl, set_same HJ2.out.rw' rfl]
    go_wp2_with fail
    rw [HS.out]
    exact bodyPost_ret (v := .agg zeroW) (wave_ret HJ2.out.rw' rfl _ rfl) rfl ⟨none, 0, by rw [HPF.out, HPL.out]; rfl, by rw [HPL.out]; exact ChksAt.nil _ _, HJ2.out.below⟩

end Go.Proofs.YtfnkdahocehilaaGreat

namespace Go.Proofs.YtfnkdahocehilaaGreat
open Go.RowKit
set_option linter.unusedSimpArgs false
set_option linter.unusedVariables false

theorem fmt_ne_data : (idFmt.toList == idData.toList) = false := by rw [fmt_list, idData_list]; decide
theorem list_beq_trans {a b c : ByteArray} (h1 : (a.toList == b.toList) = true) (h2 : (a.toList == c.toList) = true) : (b.toList == c.toList) = true := by
  rw [eq_of_list _ _ h1] at h2
  exact h2
theorem take_data (f : Fst) (c : Chk) (h : (takeN f c).2 = 0) (hd : (c.id.toList == idData.toList) = true) : f.hd = false ∧ (takeN f c).1.hd = true ∧ (takeN f c).1.smp = c.body := by
  have nz : (c.id.toList == idSizes.toList) = false := by
    cases q : c.id.toList == idSizes.toList
    · rfl
    · have := list_beq_trans q hd
      rw [sizes_ne_data] at this
      cases this
  have nf : (c.id.toList == idFmt.toList) = false := by
    cases q : c.id.toList == idFmt.toList
    · rfl
    · have := list_beq_trans q hd
      rw [fmt_ne_data] at this
      cases this
  unfold takeN at h ⊢
  rw [nz, nf, hd] at h ⊢
  split
  · rename_i h1
    rw [if_pos h1] at h
    cases h
  · rename_i h1
    rw [if_neg h1] at h
    split
    · rename_i h2
      obtain ⟨hl, hi⟩ := Bool.and_eq_true_iff.1 h2
      rw [hl, hi] at h1
      exact absurd rfl h1
    · rename_i h2
      rw [if_neg h2] at h
      simp only [Bool.false_eq_true, if_false, if_true] at h ⊢
      unfold takeDataN at h ⊢
      split
      · rename_i h3
        rw [if_pos h3] at h
        cases h
      · rename_i h3
        refine ⟨?_, rfl, rfl⟩
        cases q : f.hd
        · rfl
        · have : (seenN f).hd = true := q
          rw [this] at h3
          simp at h3
theorem take_other (f : Fst) (c : Chk) (hd : (c.id.toList == idData.toList) = false) : (takeN f c).1.hd = f.hd ∧ (takeN f c).1.smp = f.smp := by
  unfold takeN
  rw [hd]
  split
  · exact ⟨rfl, rfl⟩
  · split
    · unfold takeSizesN
      split
      · exact ⟨rfl, rfl⟩
      · split
        · exact ⟨rfl, rfl⟩
        · split <;> exact ⟨rfl, rfl⟩
    · split
      · unfold takeFmtN
        split <;> exact ⟨rfl, rfl⟩
      · exact ⟨rfl, rfl⟩
theorem has_data : ∀ (L : List Chk) (f : Fst), (hasN f L).2 = true → (f.hd = true → (∀ c ∈ L, (c.id.toList == idData.toList) = false) ∧ (hasN f L).1.smp = f.smp) ∧ (∀ c ∈ L, (c.id.toList == idData.toList) = true → c.body = (hasN f L).1.smp)
  | [], f, _ => ⟨fun _ => ⟨fun c hc => (by cases hc), rfl⟩, fun c hc => (by cases hc)⟩
  | c :: t, f, h => by
    by_cases ht : (takeN f c).2 = 0
    · rw [hasN_yes _ _ _ ht] at h ⊢
      obtain ⟨h1, h2⟩ := has_data t _ h
      cases hd : c.id.toList == idData.toList
      · obtain ⟨o1, o2⟩ := take_other f c hd
        refine ⟨fun q => ?_, fun d hdm hdd => ?_⟩
        · obtain ⟨g1, g2⟩ := h1 (by rw [o1]; exact q)
          refine ⟨fun d hdm => ?_, by rw [g2, o2]⟩
          rcases List.mem_cons.1 hdm with rfl | hdm
          · exact hd
          · exact g1 d hdm
        · rcases List.mem_cons.1 hdm with rfl | hdm
          · rw [hd] at hdd
            cases hdd
          · exact h2 d hdm hdd
      · obtain ⟨o0, o1, o2⟩ := take_data f c ht hd
        obtain ⟨g1, g2⟩ := h1 o1
        refine ⟨fun q => (by rw [o0] at q; cases q), fun d hdm hdd => ?_⟩
        rcases List.mem_cons.1 hdm with rfl | hdm
        · rw [g2, o2]
        · have := g1 d hdm
          rw [this] at hdd
          cases hdd
    · rw [hasN_no _ _ _ ht] at h
      cases h
theorem fill_bare (s : ByteArray) (c : Chk) (h : (c.id.toList == idData.toList) = true → c.body = s) : fillC s (bareC c) = c := by
  unfold fillC bareC
  cases hd : c.id.toList == idData.toList
  · simp [hd]
  · have := h hd
    obtain ⟨i, b, p⟩ := c
    simp only at hd this
    subst this
    simp [hd]
theorem fill_all (s : ByteArray) : ∀ (L : List Chk), (∀ c ∈ L, (c.id.toList == idData.toList) = true → c.body = s) → (L.map bareC).map (fillC s) = L
  | [], _ => rfl
  | c :: t, h => by
    rw [List.map_cons, List.map_cons, fill_bare s c (h c (List.mem_cons_self ..)), fill_all s t fun d hd => h d (List.mem_cons_of_mem _ hd)]
theorem fillOk_bare (c : Chk) : fillOk (bareC c) = true := by
  unfold fillOk bareC
  cases hd : c.id.toList == idData.toList
  · simp [hd]
  · simp only [if_true]
    rw [isEmpty_true _ rfl, Bool.or_true]
theorem fillB_bare (L : List Chk) (h : L.length ≤ 1024) : fillB (L.map bareC) = true := by
  unfold fillB
  rw [decide_eq_true (by rw [List.length_map]; exact h), List.all_eq_true.2 fun c hc => by
    obtain ⟨d, _, rfl⟩ := List.mem_map.1 hc
    exact fillOk_bare d]
  rfl
/-- Where fmt was come to, its width is one that a file can have. -/
def WdF (f : Fst) : Prop := f.hf = true → f.a.wd = 8 ∨ f.a.wd = 16 ∨ f.a.wd = 24 ∨ f.a.wd = 32
theorem takeN_wd (f : Fst) (c : Chk) (h : WdF f) (he : (takeN f c).2 = 0) : WdF (takeN f c).1 := by
  unfold takeN at he ⊢
  split
  · exact h
  · rename_i h1
    rw [if_neg h1] at he
    split
    · unfold takeSizesN
      split
      · exact h
      · split
        · exact h
        · split <;> exact h
    · rename_i h2
      rw [if_neg h2] at he
      split
      · rename_i h3
        rw [if_pos h3] at he
        unfold takeFmtN at he ⊢
        split
        · exact h
        · rename_i h4
          rw [if_neg h4] at he
          intro _
          obtain ⟨e, _, hs, _⟩ := snd_zero _ he
          show (sndA c.body).wd = 8 ∨ _
          rw [e]
          exact (supB_parts _ hs).2.2
      · split
        · unfold takeDataN
          split <;> exact h
        · exact h
theorem hasN_wd : ∀ (L : List Chk) (f : Fst), WdF f → OkF f → (hasN f L).2 = true → WdF (hasN f L).1 ∧ OkF (hasN f L).1
  | [], f, h, ho, _ => ⟨h, ho⟩
  | c :: t, f, h, ho, he => by
    by_cases ht : (takeN f c).2 = 0
    · rw [hasN_yes _ _ _ ht] at he ⊢
      exact hasN_wd t _ (takeN_wd f c h ht) (takeN_ok f c ho ht) he
    · rw [hasN_no _ _ _ ht] at he
      cases he
theorem fitsN_of (p : Pcm) (h : checkN p = 0) (hw : p.wd = 8 ∨ p.wd = 16 ∨ p.wd = 24 ∨ p.wd = 32) : fitsN 1 p = 0 := by
  unfold fitsN
  rw [if_pos (show formatB 1 = true from rfl), if_pos h, if_pos]
  show decide (p.wd % 8 = 0) = true
  exact decide_eq_true (by omega)
theorem readR_def (s : ByteArray) : readR s = readN ((s.extract 12 s.size).size + 1) (f0 s) [] (s.extract 12 s.size) := by unfold readR; rfl
/-- A file that is taken apart is built as it was. -/
theorem back_plain (s : ByteArray) (h : parE s = 0) : bldE (fP (readR s).1) (s.extract 0 4) (readR s).2.1 = 0 ∧ bldT (fP (readR s).1) (s.extract 0 4) (readR s).2.1 = s := by
  unfold parE at h
  by_cases h1 : 67108864 < s.size
  · rw [if_pos h1] at h
    cases h
  rw [if_neg h1] at h
  by_cases h2 : s.size < 12
  · rw [if_pos h2] at h
    cases h
  rw [if_neg h2] at h
  cases hq : (headN (f0 s)).2 && (s.extract 0 12).toList == (headN (f0 s)).1.toList
  · rw [hq] at h
    cases h
  rw [hq] at h
  simp only [if_true] at h
  by_cases h3 : (readR s).2.2 = 0
  · rw [if_pos h3] at h
    obtain ⟨hok, heq⟩ := Bool.and_eq_true_iff.1 hq
    have heq := eq_of_list _ _ heq
    have hRR : readR s = ((readR s).1, (readR s).2.1, 0) := Prod.ext rfl (Prod.ext rfl h3)
    have hRR2 : readN ((s.extract 12 s.size).size + 1) (f0 s) [] (s.extract 12 s.size) = ((readR s).1, (readR s).2.1, 0) := (readR_def s).symm.trans hRR
    obtain ⟨L, e1, e2, e3, e4, e5⟩ := read_reads _ (f0 s) [] (s.extract 12 s.size) (readR s).1 (readR s).2.1 (Nat.lt_succ_self _) hRR2
    clear hRR hRR2
    have hlen : L.length ≤ 1024 := by simpa using e5 (by simp)
    have hN1 : (hasN (f0 s) L).1 = (readR s).1 := by rw [e2]
    have hN2 : (hasN (f0 s) L).2 = true := by rw [e2]
    have hsz : sizeL L = s.size - 12 := by rw [reads_size L _ _ e4, ext_size _ _ _ (by omega) (Nat.le_refl _)]
    have hlay := reads_lay L _ _ e4
    generalize hg : (readR s).1 = g at *
    obtain ⟨hwd, hof⟩ := hasN_wd L (f0 s) (fun q => by cases q) (okf0 s) hN2
    rw [hN1] at hwd hof
    have hhd : g.hd = true := by
      unfold endN at e3
      cases q : g.hd
      · rw [q] at e3
        cases e3
      · rfl
    have hhf := hof.data hhd
    have hw := hwd hhf
    -- the samples
    have hu : unpE g.smp g.a.rate g.a.ch g.a.wd false (g.a.wd == 8) = 0 := by rw [← uE_unpE]; exact h
    have hfp : fP g = unpP g.smp g.a.rate g.a.ch g.a.wd false (g.a.wd == 8) := uP_unpP _ _ _ _ _ _
    obtain ⟨hc, hpk⟩ := pack_unpack _ _ _ _ _ _ hu
    rw [← hfp] at hc hpk
    have hpw : (fP g).wd = g.a.wd ∧ (fP g).rate = g.a.rate ∧ (fP g).ch = g.a.ch := by
      rw [hfp]
      unfold unpP
      rw [if_pos hu]
      exact ⟨rfl, rfl, rfl⟩
    have hfit : fitsN 1 (fP g) = 0 := fitsN_of _ hc (by rw [hpw.1]; exact hw)
    have hsm : smpN (fP g) = g.smp := by
      unfold smpN pakN
      rw [if_pos hc, hpw.1]
      exact hpk
    have hl2 : (readR s).2.1 = L.map bareC := by rw [e1]; rfl
    have hbl : bldL (fP g) (readR s).2.1 = L := by
      unfold bldL
      rw [hl2, hsm]
      refine fill_all g.smp L ?_
      have := (has_data L (f0 s) hN2).2
      rw [hN1] at this
      exact this
    have hst : standB L = true := by
      unfold standB
      rw [decide_eq_true hlen, hlay]
      rfl
    have hf0 : fB (s.extract 0 4) L = f0 s := by
      have e : (4 : Int) + ((sizeL L : Nat) : Int) = (s.size : Int) - 8 := by rw [hsz]; omega
      unfold fB f0
      rw [e]
    have hhas : hasB (f0 s) L (sndP (fP g)) = true := by
      unfold hasB
      rw [hN1, hN2, e3]
      have : sndB g.a (sndP (fP g)) = true := by
        rw [sndB_eq]
        unfold sndP
        rw [hpw.1, hpw.2.1, hpw.2.2]
      rw [this]
      rfl
    have hE : bldE (fP g) (s.extract 0 4) (readR s).2.1 = 0 := by
      unfold bldE
      rw [if_pos hfit, hbl, hst, hf0, hok, hhas, hl2, fillB_bare L hlen]
      simp only [Bool.and_self, if_true]
      rw [if_neg (by rw [hsz]; omega)]
    refine ⟨hE, ?_⟩
    unfold bldT
    rw [if_pos hE, hbl, hf0, hN1, ← heq]
    have hzb : g.z.big = false := by
      have : (hasN (f0 s) L).1.z.big = false := by
        cases L with
        | nil => rfl
        | cons c t =>
          by_cases ht : (takeN (f0 s) c).2 = 0
          · rw [hasN_yes _ _ _ ht, hasN_z t _ (by rw [takeN_seen]; show (1 : Int) ≤ 0 + 1; decide)]
            rcases takeN_z (f0 s) c with q | q
            · rw [q]; rfl
            · rw [q.2.2.2]; rfl
          · rw [hasN_no _ _ _ ht] at hN2
            cases hN2
      rw [← hN1]
      exact this
    have htx := reads_text L (f0 s) (s.extract 12 s.size) g.z rfl hzb (by rw [hN1]) (fun _ => rfl) (by show (0 : Int) ≤ 0; decide) e4
    rw [htx, ← bytesOf_append, textOf_bytesOf]
    have := ByteArray.extract_eq_extract_append_extract (a := s) (i := 0) (k := s.size) 12 (by omega) (by omega)
    rw [← this]
    exact ByteArray.extract_zero_size
  · rw [if_neg h3] at h
    exact absurd h h3

end Go.Proofs.YtfnkdahocehilaaGreat
