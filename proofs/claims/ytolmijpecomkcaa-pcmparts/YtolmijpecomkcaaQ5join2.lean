/- Own text: the walk of the program's Join. -/
import Derived.Test.YtolmijpecomkcaaQ5join
namespace Go.Proofs.Ytolmijpecomkcaa
open Go.RowKit
set_option linter.unusedSimpArgs false
set_option linter.unusedVariables false

/-- A box, beside the answer's. -/
structure JB (w0 : World) (Q : Nat) (p : Pcm) (a : Option Addr) (cq : Nat) (w : World) : Prop where
  jn : Jn w0 w
  bq : w.heap[Q]? = some (.cells (pcmC p a cq) 24 (0, 0))
theorem JB.next {w0 w w' : World} {Q : Nat} {p : Pcm} {a : Option Addr} {cq : Nat} (h : JB w0 Q p a cq w) (hB : Below w.heap.size w w') : JB w0 Q p a cq w' := ⟨h.jn.next hB, by rw [hB.block _ (lt_of_block h.bq)]; exact h.bq⟩

theorem Mat.next {B c n : Nat} {F : Nat → Nat → Int} {w w' : World} (h : Mat B c n F w) (hB : Below w.heap.size w w') : Mat B c n F w' :=
  ⟨h.outer.of_block (hB.block _ h.outer.lt), fun k hk => (h.inner k hk).of_block (hB.block _ (h.inner k hk).lt)⟩
theorem mat_join (ps : List Pcm) (c : Nat) (hrowk : ∀ k, k < c → ∀ p ∈ ps, (p.pl.getD k []).length = lenP p) : matL c (sumL ps) (soJ ps ps.length) = (List.range c).map (joinL ps) := by
  unfold matL
  apply List.map_congr_left
  intro k hk
  have hk := List.mem_range.1 hk
  have hl := joinL_len ps k (hrowk k hk)
  apply List.ext_getElem?
  intro j
  by_cases hj : j < sumL ps
  · rw [List.getElem?_eq_getElem (l := joinL ps k) (by rw [hl]; exact hj)]
    simp [hj, soJ, List.getD, hl]
  · rw [List.getElem?_eq_none (by simp; omega), List.getElem?_eq_none (by omega)]
theorem join_range (ps : List Pcm) (k j : Nat) (hall : ∀ p ∈ ps, checkN p = 0 ∧ k < p.pl.length) : -9223372036854775808 ≤ (joinL ps k).getD j 0 ∧ (joinL ps k).getD j 0 ≤ 9223372036854775807 := by
  by_cases hj : j < (joinL ps k).length
  · have hm : (joinL ps k).getD j 0 ∈ joinL ps k := by
      rw [List.getD_eq_getElem?_getD, List.getElem?_eq_getElem hj]
      exact List.getElem_mem hj
    generalize (joinL ps k).getD j 0 = x at *
    unfold joinL at hm
    obtain ⟨p, hp, hx⟩ := List.mem_flatMap.1 hm
    obtain ⟨hc, hkl⟩ := hall p hp
    have hk := ok_parts p hc
    have hh := check_head_ok p hc
    obtain ⟨i, hi, rfl⟩ := List.mem_iff_getElem.1 hx
    have hl := hk.2.2.1 k hkl
    have hs := hk.2.2.2.2 i k (by omega) hkl
    have hr := samp_range _ p.wd (by omega) (by omega) hs
    rw [List.getD_eq_getElem?_getD (l := p.pl.getD k []), List.getElem?_eq_getElem hi] at hr
    simp only [Option.getD_some] at hr
    omega
  · rw [List.getD_eq_getElem?_getD, List.getElem?_eq_none (by omega)]
    decide
structure JL (w0 : World) (Wb c N : Nat) (p0 : Pcm) (ps : List Pcm) (i : Nat) (w : World) : Prop where
  res : w.heap[w0.heap.size]? = some (.cells zeroC 24 (0, 0))
  wb : w.heap[Wb]? = some (.cells #[.int .i64 p0.rate, .int .i64 p0.ch, .int .i64 p0.wd, .slice (some ⟨Wb + 1, 0, none⟩) c c] 24 (0, 0))
  mat : Mat (Wb + 1) c N (soJ ps i) w
  lo : w0.heap.size < Wb
  size : Wb + 1 + c < w.heap.size
  below : Below w0.heap.size w0 w
theorem JL.next {w0 w w' : World} {Wb c N : Nat} {p0 : Pcm} {ps : List Pcm} {i : Nat} (h : JL w0 Wb c N p0 ps i w) (hB : Below w.heap.size w w') : JL w0 Wb c N p0 ps i w' :=
  ⟨by rw [hB.block _ (lt_of_block h.res)]; exact h.res, by rw [hB.block _ (lt_of_block h.wb)]; exact h.wb, h.mat.next hB, h.lo, Nat.lt_of_lt_of_le h.size hB.size, h.below.trans (hB.mono h.below.size)⟩

set_option maxRecDepth 20000 in
set_option maxHeartbeats 6400000 in
theorem join_yes (p0 : Pcm) (tl : List Pcm) (ao : Option Addr) (cap : Nat) (w : World) (h : PcmsAt w ao (p0 :: tl)) (hne : joinE (p0 :: tl) = 0) :
    Calls Try.prog 20 #[.slice ao (p0 :: tl).length cap] w fun e w' => GivesU w (joinP (p0 :: tl)) (joinE (p0 :: tl)) e w' := by
  obtain ⟨ps, hps⟩ : ∃ ps, p0 :: tl = ps := ⟨_, rfl⟩
  have h0 : ps[0]? = some p0 := by rw [← hps]; rfl
  have hJ : joinE ps = if partsE p0 ps = 0 then (if 1048576 < sumL ps then 5 else 0) else partsE p0 ps := by rw [← hps]; exact rfl
  rw [hps] at h hne ⊢
  have hpart : partsE p0 ps = 0 := by
    by_cases q : partsE p0 ps = 0
    · exact q
    · rw [hJ, if_neg q] at hne
      exact absurd hne q
  have hsum : sumL ps ≤ 1048576 := by
    rw [hJ, if_pos hpart] at hne
    by_cases q : 1048576 < sumL ps
    · rw [if_pos q] at hne
      exact absurd hne (by decide)
    · omega
  have hall : ∀ (i : Nat) (p : Pcm), ps[i]? = some p → checkN p = 0 ∧ alikeB p p0 = true := fun i p hi => partE_zero p0 p ((partsE_zero p0 ps).1 hpart i p hi)
  have hk0 := ok_parts p0 (hall 0 p0 h0).1
  have hh0 := check_head_ok p0 (hall 0 p0 h0).1
  obtain ⟨c, hcc⟩ : ∃ c : Nat, p0.pl.length = c := ⟨_, rfl⟩
  have hpc : p0.ch = (c : Int) := by omega
  have hrows : ∀ (i : Nat) (p : Pcm), ps[i]? = some p → p.pl.length = c ∧ (∀ k, k < p.pl.length → (p.pl.getD k []).length = lenP p) ∧ lenP p ≤ 1048576 := fun i p hi => by
    have hk := ok_parts p (hall i p hi).1
    have hh := check_head_ok p (hall i p hi).1
    have ha := of_decide_eq_true (hall i p hi).2
    exact ⟨by omega, hk.2.2.1, hk.2.1⟩
  have hrowk : ∀ k, k < c → ∀ p ∈ ps, (p.pl.getD k []).length = lenP p := fun k hk p hp => by
    obtain ⟨i, hi⟩ := List.mem_iff_getElem?.1 hp
    have := hrows i p hi
    exact this.2.1 k (by omega)
  have HP : Hid (joinP ps = ⟨p0.rate, p0.ch, p0.wd, (List.range c).map (joinL ps)⟩) := by
    show _ = _
    unfold joinP
    rw [if_pos hne, show ps.getD 0 noP = p0 from by rw [List.getD_eq_getElem?_getD, h0]; rfl, hcc]
  have HE : Hid (joinE ps = 0) := hne
  have HJ : Hid (Jn w (w.alloc (.cells zeroC 24))) := Jn.new w
  have hlen : ps.length ≤ 2932031007403 := h.len
  have hpos : 0 < ps.length := by rw [← hps]; simp
  have HH : Hid (PcmsAt w ao ps) := h
  have HALL : Hid (∀ (i : Nat) (p : Pcm), ps[i]? = some p → checkN p = 0 ∧ alikeB p p0 = true) := hall
  have HROWS : Hid (∀ (i : Nat) (p : Pcm), ps[i]? = some p → p.pl.length = c ∧ (∀ k, k < p.pl.length → (p.pl.getD k []).length = lenP p) ∧ lenP p ≤ 1048576) := hrows
  have HROWK : Hid (∀ k, k < c → ∀ p ∈ ps, (p.pl.getD k []).length = lenP p) := hrowk
  obtain ⟨b, off, a0, c0, rfl, hz, hr0, hf0⟩ := h.at 0 p0 h0
  rw [Nat.zero_mul] at hz
  have HZ : Hid (∀ wx, Below w.heap.size w wx → wx.cell? ⟨b, off, none⟩ = some (.int .i64 p0.rate) ∧ wx.cell? ⟨b, off + 1, none⟩ = some (.int .i64 p0.ch) ∧ wx.cell? ⟨b, off + 2, none⟩ = some (.int .i64 p0.wd) ∧ wx.cell? ⟨b, off + 3, none⟩ = some (.slice a0 p0.pl.length c0)) := fun wx hx => ⟨(hz wx hx).1, (hz wx hx).2.1, (hz wx hx).2.2.1, (hz wx hx).2.2.2⟩
  have hpb : ((ps.length : Int) == 0) = false := by rw [beq_eq_false_iff_ne]; omega
  have HPC : Hid (p0.ch = (c : Int)) := hpc
  have HCC : Hid (p0.pl.length = c) := hcc
  have hc1 : 1 ≤ c := by omega
  have hc8 : c ≤ 8 := by omega
  clear h hz hr0 h0 hne hpart hJ hall hrows hrowk hk0 hps hh0 hpc hcc
  go_enter Try.func20, Try.ntmps20
  go_wp2_with fail
  generalize hwa : World.alloc _ _ = wa
  have HA : Hid (Jn w wa) := by
    rw [← hwa]
    exact HJ.out
  clear hwa HJ
  go_loopw [4, 6, 7, 18] (fun n s6 s7 t wr => ∃ i : Nat, i ≤ ps.length ∧ t = .int .i64 (i : Int) ∧ n = .int .i64 (sumL (ps.take i) : Int) ∧ Jn w wr) (fun _ _ _ t _ => ps.length - (intOf t).toNat)
  case atStart => exact ⟨0, Nat.zero_le _, rfl, rfl, HA.out⟩
  case round =>
    clear HA
    obtain ⟨i, hi, rfl, rfl, hj⟩ := hrel
    have HJ : Hid (Jn w wr) := hj
    clear hj
    by_cases hlt : i < ps.length
    · obtain ⟨p, hp⟩ : ∃ p, ps[i]? = some p := ⟨_, List.getElem?_eq_getElem hlt⟩
      obtain ⟨b', off', a, cq, e, hcell, hr, hf⟩ := HH.out.at i p hp
      have e' : b = b' ∧ off = off' := by
        injection e with e
        injection e with e1 e2
        exact ⟨e1, e2⟩
      obtain ⟨rfl, rfl⟩ := e'
      have hst := sumL_take ps i p hp
      have hle := sumL_pre ps (i + 1)
      have hl20 := (HROWS.out i p hp).2.2
      have HST : Hid (sumL (ps.take (i + 1)) = sumL (ps.take i) + lenP p) := hst
      have hsb : sumL (ps.take i) + lenP p ≤ 1048576 := by omega
      have hw := hcell wr HJ.out.below
      have x0 := hw.1
      have x1 := hw.2.1
      have x2 := hw.2.2.1
      have x3 := hw.2.2.2
      have HQ : Hid (JB w wr.heap.size p a cq (wr.alloc (.cells (pcmC p a cq) 24))) := ⟨HJ.out.next ((Below.refl _ _).alloc (Nat.le_refl _) _), heap_alloc_new _ _⟩
      have HRP : Hid (RowsAt w a p.pl) := hr
      have KC : Hid (∀ wx, Hid (JB w wr.heap.size p a cq wx) → Calls Try.prog 8 #[pcmV p a cq] wx fun e w' => e = .returned (.int .i64 0) ∧ Hid (JB w wr.heap.size p a cq w')) := fun wx hx => (check_spec p a cq wx (HRP.out.below hx.out.jn.below)).mono fun e w' h => ⟨by rw [h.1, (HALL.out i p hp).1], hx.out.next h.2⟩
      have KI : Hid (∀ wx, Hid (JB w wr.heap.size p a cq wx) → Calls Try.prog 44 #[pcmV p a cq, pcmV p0 a0 c0] wx fun e w' => e = .returned (.bool true) ∧ Hid (JB w wr.heap.size p a cq w')) := fun wx hx => (isAlike_spec p p0 a a0 cq c0 wx).mono fun e w' h => ⟨by rw [h.1, (HALL.out i p hp).2], hx.out.next h.2⟩
      have KL : Hid (∀ wx, Hid (JB w wr.heap.size p a cq wx) → Calls Try.prog 12 #[pcmV p a cq] wx fun e w' => e = .returned (.int .i64 (lenP p : Int)) ∧ Hid (JB w wr.heap.size p a cq w')) := fun wx hx => (len_spec p a cq wx (HRP.out.below hx.out.jn.below)).mono fun e w' h => ⟨h.1, hx.out.next h.2⟩
      have kc := KC.out _ HQ
      have HSS : Hid (∀ wx, Hid (JB w wr.heap.size p a cq wx) → wx.cell? ⟨wr.heap.size, 0, none⟩ = some (.int .i64 p.rate) ∧ wx.cell? ⟨wr.heap.size, 1, none⟩ = some (.int .i64 p.ch) ∧ wx.cell? ⟨wr.heap.size, 2, none⟩ = some (.int .i64 p.wd) ∧ wx.cell? ⟨wr.heap.size, 3, none⟩ = some (.slice a p.pl.length cq) ∧ wx.cell? ⟨b, off, none⟩ = some (.int .i64 p0.rate) ∧ wx.cell? ⟨b, off + 1, none⟩ = some (.int .i64 p0.ch) ∧ wx.cell? ⟨b, off + 2, none⟩ = some (.int .i64 p0.wd) ∧ wx.cell? ⟨b, off + 3, none⟩ = some (.slice a0 p0.pl.length c0)) := fun wx hx =>
        have hz := HZ.out wx hx.out.jn.below
        ⟨by rw [cell_of_row _ _ _ _ _ _ hx.out.bq]; rfl, by rw [cell_of_row _ _ _ _ _ _ hx.out.bq]; rfl, by rw [cell_of_row _ _ _ _ _ _ hx.out.bq]; rfl, by rw [cell_of_row _ _ _ _ _ _ hx.out.bq]; rfl, hz.1, hz.2.1, hz.2.2.1, hz.2.2.2⟩
      clear hw hcell hr hf e hst hle
      go_wp2_with fail
      refine kc.mono ?_
      rintro e w7 ⟨rfl, h7⟩
      clear kc x0 x1 x2 x3 HQ
      have h7d : Hid (JB w wr.heap.size p a cq w7.drew) := h7.out.next ⟨rfl, rfl, rfl, Nat.le_refl _, fun _ _ => rfl⟩
      go_wp2_with fail
      go_region_held3 (fun wx => wx.cell? ⟨wr.heap.size, 0, none⟩ = some (.int .i64 p.rate) ∧ wx.cell? ⟨wr.heap.size, 1, none⟩ = some (.int .i64 p.ch) ∧ wx.cell? ⟨wr.heap.size, 2, none⟩ = some (.int .i64 p.wd) ∧ wx.cell? ⟨wr.heap.size, 3, none⟩ = some (.slice a p.pl.length cq) ∧ wx.cell? ⟨b, off, none⟩ = some (.int .i64 p0.rate) ∧ wx.cell? ⟨b, off + 1, none⟩ = some (.int .i64 p0.ch) ∧ wx.cell? ⟨b, off + 2, none⟩ = some (.int .i64 p0.wd) ∧ wx.cell? ⟨b, off + 3, none⟩ = some (.slice a0 p0.pl.length c0)) (exact HSS.out _ (by assumption))
        (first
          | (go_at_call 44; refine (KI.out _ (by assumption)).mono ?_; rintro e w8 ⟨rfl, h8⟩))
      have h8s := HSS.out w8 h8
      have y0 := h8s.1
      have y1 := h8s.2.1
      have y2 := h8s.2.2.1
      have y3 := h8s.2.2.2.1
      have kl := KL.out w8 h8
      clear h8s h7 h7d
      go_wp2_with fail
      refine kl.mono ?_
      rintro e w9 ⟨rfl, h9⟩
      clear kl y0 y1 y2 y3 h8
      go_wp2_with fail
      go_roundw
      case rel => exact ⟨i + 1, by omega, by go_num, by rw [HST.out]; go_num, h9.out.jn⟩
      case measure => simp [intOf]; omega
    · have hie : i = ps.length := by omega
      subst hie
      rw [List.take_length] at *
      obtain ⟨N, hN⟩ : ∃ N, sumL ps = N := ⟨_, rfl⟩
      rw [hN] at hsum ⊢
      have HNN : Hid (sumL ps = N) := hN
      clear hN hi hlt
      have hz := HZ.out wr HJ.out.below
      have x0 := hz.1
      have x1 := hz.2.1
      have x2 := hz.2.2.1
      have x3 := hz.2.2.2
      obtain ⟨Wb, hWb⟩ : ∃ Wb, wr.heap.size = Wb := ⟨_, rfl⟩
      have HWB : Hid (wr.heap.size = Wb) := hWb
      have hlo : w.heap.size < Wb := by rw [← hWb]; exact lt_of_block HJ.out.res
      have hq : (wr.alloc (.cells (pcmC p0 a0 c0) 24)).heap[Wb]? = some (.cells (pcmC p0 a0 c0) 24 (0, 0)) := by rw [← hWb]; exact heap_alloc_new _ _
      have hsz : (wr.alloc (.cells (pcmC p0 a0 c0) 24)).heap.size = Wb + 1 := by rw [← hWb]; simp
      have kb := blank_spec c N hc8 hsum (wr.alloc (.cells (pcmC p0 a0 c0) 24))
      rw [hsz, ← HPC.out] at kb
      have H10 : Hid (Jn w (wr.alloc (.cells (pcmC p0 a0 c0) 24))) := HJ.out.next ((Below.refl _ _).alloc (Nat.le_refl _) _)
      have HQ : Hid ((wr.alloc (.cells (pcmC p0 a0 c0) 24)).heap[Wb]? = some (.cells (pcmC p0 a0 c0) 24 (0, 0))) := hq
      have HSZ : Hid ((wr.alloc (.cells (pcmC p0 a0 c0) 24)).heap.size = Wb + 1) := hsz
      have y1 : (wr.alloc (.cells (pcmC p0 a0 c0) 24)).cell? ⟨Wb, 1, none⟩ = some (.int .i64 p0.ch) := by rw [cell_of_row _ _ _ _ _ _ hq]; rfl
      clear hq hsz hz
      go_wp2_with fail
      refine kb.mono ?_
      rintro e w11 ⟨rfl, hM, hs11, hB⟩
      have hB' : Below (wr.alloc (.cells (pcmC p0 a0 c0) 24)).heap.size (wr.alloc (.cells (pcmC p0 a0 c0) 24)) w11 := by rw [HSZ.out]; exact hB
      have hj11 := H10.out.next hB'
      have hq11 : w11.heap[Wb]? = some (.cells (pcmC p0 a0 c0) 24 (0, 0)) := by rw [hB'.block _ (lt_of_block HQ.out)]; exact HQ.out
      have j3 : w11.cell? ⟨Wb, 3, none⟩ = some (.slice a0 p0.pl.length c0) := by rw [cell_of_row _ _ _ _ _ _ hq11]; rfl
      have jf : w11.frozen? ⟨Wb, 3, none⟩ = false := by simp [World.frozen?, hq11]
      have HL0 : Hid (JL w Wb c N p0 ps 0 (w11.setCell ⟨Wb, 3, none⟩ (.slice (some ⟨Wb + 1, 0, none⟩) c c))) := by
        refine ⟨by rw [heap_set_other _ _ _ _ (by simp; omega)]; exact hj11.res, ?_, ?_, hlo, by rw [World.size_setCell]; omega, hj11.below.setCell (by simp; omega) _⟩
        · rw [blk_set _ _ _ _ _ _ hq11]
          rfl
        · refine Mat.setLow ⟨hM.outer, fun k hk => (hM.inner k hk).congr fun j hj => ?_⟩ _ _ (Nat.lt_succ_self _)
          unfold soJ
          rw [if_neg (by simp [sumL])]
      clear kb hM hs11 hB hB' hj11 hq11 H10 HQ HSZ x0 x1 x2 x3 y1
      go_wp2_with fail
      clear j3 jf
      generalize hw12 : World.setCell _ _ _ = w12
      have HL : Hid (JL w Wb c N p0 ps 0 w12) := by
        rw [← hw12]
        exact HL0.out
      clear hw12 HL0
      go_loopw [9, 11, 53] (fun n s11 t wr' => ∃ i : Nat, i ≤ ps.length ∧ t = .int .i64 (i : Int) ∧ n = .int .i64 (sumL (ps.take i) : Int) ∧ JL w Wb c N p0 ps i wr') (fun _ _ t _ => ps.length - (intOf t).toNat)
      case atStart => exact ⟨0, Nat.zero_le _, rfl, rfl, HL.out⟩
      case round =>
        clear HL
        obtain ⟨i, hi, rfl, rfl, hjl⟩ := hrel
        have HL : Hid (JL w Wb c N p0 ps i wr) := hjl
        clear hjl
        by_cases hlt : i < ps.length
        · obtain ⟨p, hp⟩ : ∃ p, ps[i]? = some p := ⟨_, List.getElem?_eq_getElem hlt⟩
          obtain ⟨b', off', a, cq, e, hcell, hr, hf⟩ := HH.out.at i p hp
          have e' : b = b' ∧ off = off' := by
            injection e with e
            injection e with e1 e2
            exact ⟨e1, e2⟩
          obtain ⟨rfl, rfl⟩ := e'
          have hst := sumL_take ps i p hp
          have hle := sumL_pre ps (i + 1)
          have hnn := HNN.out
          have hro := HROWS.out i p hp
          have HST : Hid (sumL (ps.take (i + 1)) = sumL (ps.take i) + lenP p) := hst
          have hsb : sumL (ps.take i) + lenP p ≤ N := by omega
          have hw := hcell wr HL.out.below
          have x0 := hw.1
          have x1 := hw.2.1
          have x2 := hw.2.2.1
          have x3 := hw.2.2.2
          have hA : Below wr.heap.size wr (wr.alloc (.cells (pcmC p a cq) 24)) := (Below.refl _ _).alloc (Nat.le_refl _) _
          have hl13 := HL.out.next hA
          have hq : (wr.alloc (.cells (pcmC p a cq) 24)).heap[wr.heap.size]? = some (.cells (pcmC p a cq) 24 (0, 0)) := heap_alloc_new _ _
          have y3 : (wr.alloc (.cells (pcmC p a cq) 24)).cell? ⟨wr.heap.size, 3, none⟩ = some (.slice a p.pl.length cq) := by rw [cell_of_row _ _ _ _ _ _ hq]; rfl
          have v3 : (wr.alloc (.cells (pcmC p a cq) 24)).cell? ⟨Wb, 3, none⟩ = some (.slice (some ⟨Wb + 1, 0, none⟩) c c) := by rw [cell_of_row _ _ _ _ _ _ hl13.wb]; rfl
          have kla : Calls Try.prog 47 #[.slice (some ⟨Wb + 1, 0, none⟩) c c, .slice a p.pl.length cq, .int .i64 (sumL (ps.take i) : Int)] (wr.alloc (.cells (pcmC p a cq) 24)) fun e w' => e = .returned (.tuple #[]) ∧ Hid (JL w Wb c N p0 ps (i + 1) w') ∧ Hid (w'.heap[wr.heap.size]? = some (.cells (pcmC p a cq) 24 (0, 0))) := by
            refine (lay_spec (Wb + 1) c N (sumL (ps.take i)) (lenP p) (soJ ps i) p.pl a cq w (wr.alloc (.cells (pcmC p a cq) 24)) hl13.mat hr hl13.below (by omega) hro.1 hro.2.1 hsb hsum hc8).mono fun e w' h => ⟨h.1, ?_, ?_⟩
            · refine ⟨by rw [h.2.kept _ (by omega)]; exact hl13.res, by rw [h.2.kept _ (by omega)]; exact hl13.wb, ⟨h.2.mat.outer, fun k hk => (h.2.mat.inner k hk).congr fun j hj => ?_⟩, hlo, by rw [h.2.size]; exact hl13.size, hl13.below.trans (h.2.below.mono (by omega))⟩
              rw [← soJ_step ps i p hp k j (HROWK.out k hk)]
              by_cases q : sumL (ps.take i) ≤ j ∧ j < sumL (ps.take i) + lenP p
              · rw [if_pos q, if_pos ⟨hk, q⟩]
              · rw [if_neg q, if_neg (fun h => q h.2)]
            · show _ = _
              rw [h.2.kept _ (Or.inr (by have := HL.out.size; omega))]
              exact hq
          have KL : Hid (∀ wx, Below w.heap.size w wx → Calls Try.prog 12 #[pcmV p a cq] wx fun e w' => e = .returned (.int .i64 (lenP p : Int)) ∧ Below wx.heap.size wx w') := fun wx hx => len_spec p a cq wx (hr.below hx)
          clear hw hcell hf e hst hle hnn hA hl13 hq hr hro
          go_wp2_with fail
          refine kla.mono ?_
          rintro e w14 ⟨rfl, h14, q14⟩
          clear kla x0 x1 x2 x3 y3 v3 HL
          have u0 : w14.cell? ⟨wr.heap.size, 0, none⟩ = some (.int .i64 p.rate) := by rw [cell_of_row _ _ _ _ _ _ q14.out]; rfl
          have u1 : w14.cell? ⟨wr.heap.size, 1, none⟩ = some (.int .i64 p.ch) := by rw [cell_of_row _ _ _ _ _ _ q14.out]; rfl
          have u2 : w14.cell? ⟨wr.heap.size, 2, none⟩ = some (.int .i64 p.wd) := by rw [cell_of_row _ _ _ _ _ _ q14.out]; rfl
          have u3 : w14.cell? ⟨wr.heap.size, 3, none⟩ = some (.slice a p.pl.length cq) := by rw [cell_of_row _ _ _ _ _ _ q14.out]; rfl
          have kl := KL.out w14 h14.out.below
          go_wp2_with fail
          refine kl.mono ?_
          rintro e w15 ⟨rfl, h15⟩
          have H15 : Hid (JL w Wb c N p0 ps (i + 1) w15) := h14.out.next h15
          clear kl h15 h14 q14 u0 u1 u2 u3 KL
          go_wp2_with fail
          go_roundw
          case rel => exact ⟨i + 1, by omega, by go_num, by rw [HST.out]; go_num, H15.out⟩
          case measure => simp [intOf]; omega
        · have hie : i = ps.length := by omega
          subst hie
          have hwb := HL.out.wb
          have r0 := HL.out.res
          have m0 : wr.cell? ⟨Wb, 0, none⟩ = some (.int .i64 p0.rate) := by rw [cell_of_row _ _ _ _ _ _ hwb]; rfl
          have m1 : wr.cell? ⟨Wb, 1, none⟩ = some (.int .i64 p0.ch) := by rw [cell_of_row _ _ _ _ _ _ hwb]; rfl
          have m2 : wr.cell? ⟨Wb, 2, none⟩ = some (.int .i64 p0.wd) := by rw [cell_of_row _ _ _ _ _ _ hwb]; rfl
          have m3 : wr.cell? ⟨Wb, 3, none⟩ = some (.slice (some ⟨Wb + 1, 0, none⟩) c c) := by rw [cell_of_row _ _ _ _ _ _ hwb]; rfl
          have q0 : wr.cell? ⟨w.heap.size, 0, none⟩ = some (.int .i64 0) := by rw [cell_of_row _ _ _ _ _ _ r0]; rfl
          have z0 : wr.frozen? ⟨w.heap.size, 0, none⟩ = false := by simp [World.frozen?, r0]
          have q1 : wr.cell? ⟨w.heap.size, 1, none⟩ = some (.int .i64 0) := by rw [cell_of_row _ _ _ _ _ _ r0]; rfl
          have z1 : wr.frozen? ⟨w.heap.size, 1, none⟩ = false := by simp [World.frozen?, r0]
          have q2 : wr.cell? ⟨w.heap.size, 2, none⟩ = some (.int .i64 0) := by rw [cell_of_row _ _ _ _ _ _ r0]; rfl
          have z2 : wr.frozen? ⟨w.heap.size, 2, none⟩ = false := by simp [World.frozen?, r0]
          have q3 : wr.cell? ⟨w.heap.size, 3, none⟩ = some (.slice none 0 0) := by rw [cell_of_row _ _ _ _ _ _ r0]; rfl
          have z3 : wr.frozen? ⟨w.heap.size, 3, none⟩ = false := by simp [World.frozen?, r0]
          clear hwb r0
          go_wp2_with fail
          generalize hwf : (((wr.setCell ⟨w.heap.size, 0, none⟩ (.int .i64 p0.rate)).setCell ⟨w.heap.size, 1, none⟩ (.int .i64 p0.ch)).setCell ⟨w.heap.size, 2, none⟩ (.int .i64 p0.wd)).setCell ⟨w.heap.size, 3, none⟩ (.slice (some ⟨Wb + 1, 0, none⟩) c c) = wf
          have hrow : wf.heap[w.heap.size]? = some (.cells #[.int .i64 p0.rate, .int .i64 p0.ch, .int .i64 p0.wd, .slice (some ⟨Wb + 1, 0, none⟩) c c] 24 (0, 0)) := by
            rw [← hwf, blk_set _ _ _ _ _ _ (blk_set _ _ _ _ _ _ (blk_set _ _ _ _ _ _ (blk_set _ _ _ _ _ _ HL.out.res)))]
            rfl
          have hbel : Below w.heap.size w wf := by
            rw [← hwf]
            exact (((HL.out.below.setCell (Nat.le_refl _) _).setCell (Nat.le_refl _) _).setCell (Nat.le_refl _) _).setCell (Nat.le_refl _) _
          have hmat : Mat (Wb + 1) c N (soJ ps ps.length) wf := by
            rw [← hwf]
            exact (((HL.out.mat.setLow _ _ (by simp; omega)).setLow _ _ (by simp; omega)).setLow _ _ (by simp; omega)).setLow _ _ (by simp; omega)
          have hrange : ∀ k i, k < c → i < N → -9223372036854775808 ≤ soJ ps ps.length k i ∧ soJ ps ps.length k i ≤ 9223372036854775807 := fun k i hk hi => by
            unfold soJ
            split
            · exact join_range ps k i (fun p hp => by
                obtain ⟨j, hj⟩ := List.mem_iff_getElem?.1 hp
                exact ⟨(HALL.out j p hj).1, by have := (HROWS.out j p hj).1; omega⟩)
            · decide
          obtain ⟨hrows, hfr⟩ := mat_rows hmat hc8 hsum hrange
          have hmj := mat_join ps c HROWK.out
          rw [HNN.out] at hmj
          rw [hmj] at hrows hfr
          have hlen2 : ((List.range c).map (joinL ps)).length = c := by simp
          refine bodyPost_ret (v := .tuple #[.agg #[.int .i64 p0.rate, .int .i64 p0.ch, .int .i64 p0.wd, .slice (some ⟨Wb + 1, 0, none⟩) c c], .int .i64 0]) ?_ rfl ⟨some ⟨Wb + 1, 0, none⟩, c, by rw [HP.out, HE.out]; show _ = Ending.returned (.tuple #[.agg #[.int .i64 p0.rate, .int .i64 p0.ch, .int .i64 p0.wd, .slice (some ⟨Wb + 1, 0, none⟩) ((List.range c).map (joinL ps)).length c], .int .i64 0]); rw [hlen2], by rw [HP.out]; exact hrows, by rw [HP.out]; exact hfr.mono2 (by omega), hbel⟩
          rw [res_two rfl]
          have hld := run_loadVar_row (P := Try.prog) wf w.heap.size 24 24 #[.int .i64 p0.rate, .int .i64 p0.ch, .int .i64 p0.wd, .slice (some ⟨Wb + 1, 0, none⟩) c c] (0, 0) _ hrow Try.underlying24 rfl infPcm
          simp [asAddr, Result.andThen, hld]

end Go.Proofs.Ytolmijpecomkcaa
