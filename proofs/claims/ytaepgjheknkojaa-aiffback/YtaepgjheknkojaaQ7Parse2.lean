/- Own text: the walk of Parse (aiff). -/
import Derived.Test.YtaepgjheknkojaaQ7parse
import Derived.Deep.Cut
namespace Go.Proofs.Ytaepgjheknkojaa
open Go.RowKit
set_option linter.unusedSimpArgs false
set_option linter.unusedVariables false

/-- Rows from block B on. -/
structure FreshQ (B : Nat) (w : World) (ao : Option Addr) (xs : List (List Int)) : Prop where
  own : ∀ b off, ao = some ⟨b, off, none⟩ → 0 < xs.length → B ≤ b
  rows : ∀ b off, ao = some ⟨b, off, none⟩ → ∀ i, i < xs.length → ∀ a n c, w.cell? ⟨b, off + i, none⟩ = some (.slice a n c) → ∀ ba oa, a = some ⟨ba, oa, none⟩ → B ≤ ba
theorem FreshQ.of {B : Nat} {w : World} {ao : Option Addr} {xs : List (List Int)} (h : Fresh B w ao xs) : FreshQ B w ao xs := ⟨h.own, fun b off e i hi a n c hc ba oa ha => (h.rows b off e i hi a n c hc ba oa ha).1⟩
theorem FreshQ.below {B : Nat} {w w' : World} {ao : Option Addr} {xs : List (List Int)} (h : FreshQ B w ao xs) (hr : RowsAt w ao xs) (hB : Below w.heap.size w w') : FreshQ B w' ao xs := by
  refine ⟨h.own, fun b off e i hi a n c hc ba oa ha => ?_⟩
  obtain ⟨b2, off2, e2, hcell⟩ := hr.lies (by omega)
  rw [e] at e2
  cases e2
  obtain ⟨a', c', h1, _⟩ := hcell i hi
  have hk : w'.cell? ⟨b, off + i, none⟩ = w.cell? ⟨b, off + i, none⟩ := World.cell?_of_block (w := w) (hB.block b (lt_cell h1))
  rw [hk] at hc
  exact h.rows b off e i hi a n c hc ba oa ha
theorem RowsAt.setQ {B : Nat} {w : World} {ao : Option Addr} {xs : List (List Int)} (h : RowsAt w ao xs) (hf : FreshQ B w ao xs) {a : Addr} (ha : a.block < B) (u : Value) : RowsAt (w.setCell a u) ao xs ∧ FreshQ B (w.setCell a u) ao xs := by
  have hk : ∀ b o, B ≤ b → (w.setCell a u).cell? ⟨b, o, none⟩ = w.cell? ⟨b, o, none⟩ := fun b o hb => World.cell?_of_block (w := w) (Below.heap_setCell _ _ _ _ (by show b ≠ a.block; omega))
  refine ⟨⟨h.len, fun h0 => ?_⟩, ⟨hf.own, fun b off e i hi x n c hc ba oa hx => ?_⟩⟩
  · obtain ⟨b, off, e, hcell⟩ := h.lies h0
    refine ⟨b, off, e, fun i hi => ?_⟩
    obtain ⟨a', c', h1, h2, h3, h4⟩ := hcell i hi
    refine ⟨a', c', by rw [hk _ _ (hf.own b off e h0)]; exact h1, h2, h3, ⟨h4.len, h4.num, fun hl => ?_⟩⟩
    obtain ⟨ba, oa, e3, h5⟩ := h4.lies hl
    refine ⟨ba, oa, e3, fun j hj => ?_⟩
    rw [hk _ _ (hf.rows b off e i hi a' _ c' h1 ba oa e3)]
    exact h5 j hj
  · rw [hk _ _ (hf.own b off e (by omega))] at hc
    exact hf.rows b off e i hi x n c hc ba oa hx
theorem ChksAt.setOther {w : World} {ao : Option Addr} {l : List Chk} (h : ChksAt w ao l) {B : Nat} (hf : FreshC B ao) {a : Addr} (ha : a.block < B) (u : Value) : ChksAt (w.setCell a u) ao l := by
  refine ⟨fun h0 => ?_⟩
  obtain ⟨b', off, e, hc⟩ := h.lies h0
  refine ⟨b', off, e, fun i c hi => ?_⟩
  obtain ⟨h0, h1, h2⟩ := hc i c hi
  have hb := hf b' off e
  have k : ∀ o, (w.setCell a u).cell? ⟨b', o, .none⟩ = w.cell? ⟨b', o, .none⟩ := fun o => World.cell?_of_block (w := w) (Below.heap_setCell _ _ _ _ (by show b' ≠ a.block; omega))
  exact ⟨by rw [k]; exact h0, by rw [k]; exact h1, by rw [k]; exact h2⟩

/-- What Parse answers. -/
def GivesB7 (w : World) (s : ByteArray) (e : Ending) (w' : World) : Prop := ∃ q po pc wf l wo wc, e = .returned (.tuple #[pcmV q po pc, .agg (waveC wf l wo wc), .int .i64 (p7E s)]) ∧ Below w.heap.size w w' ∧ RowsAt w' po q.pl ∧ ChksAt w' wo l ∧ (p7E s = 0 → q = p7P s ∧ wf = opF s ∧ l = p7L s) ∧ (p7E s ≠ 0 → q = ⟨0, 0, 0, []⟩ ∧ wf = ⟨#[]⟩ ∧ l = [])

set_option maxRecDepth 20000 in
set_option maxHeartbeats 6400000 in
theorem Parse7_no (s : ByteArray) (w : World) (hs : s.size ≤ 140737488351232) (hE : p7E s ≠ 0) :
    Calls Try.prog 4 #[.string s] w (GivesB7 w s) := by
  have HJ0 : Hid (Ja7 w zeroP7 zeroW ((w.alloc (.cells zeroP7 24)).alloc (.cells zeroW 27))) := Ja7.new2 w _ _
  have kp := fun wx => parse7_spec s wx hs
  have HGB : Hid (∀ w', Below w.heap.size w w' → GivesB7 w s (.returned (.tuple #[.agg zeroP7, .agg zeroW, .int .i64 (p7E s)])) w') := fun w' hB =>
    ⟨⟨0, 0, 0, []⟩, none, 0, ⟨#[]⟩, [], none, 0, rfl, hB, rows_none _ _, ChksAt.nil _ _, fun q => absurd q hE, fun _ => ⟨rfl, rfl, rfl⟩⟩
  have hEb : (p7E s != 0) = true := by simpa using hE
  have KP : Hid (∀ wx, Calls Try.prog 7 #[.string s] wx fun e w' => ∃ q po pc wf wo n wc, e = .returned (.tuple #[pcmV q po pc, .agg #[.string wf, .slice wo n wc], .int .i64 (p7E s)]) ∧ Below wx.heap.size wx w') := fun wx => (kp wx).mono fun e w' h => by
    obtain ⟨q, po, pc, wf, wo, n, wc, e1, hB, _⟩ := h
    exact ⟨q, po, pc, wf, wo, n, wc, e1, hB⟩
  clear kp hE
  generalize p7E s = E at *
  go_enter Try.func4, Try.ntmps4
  go_wp2_with fail
  refine (KP.out _).mono ?_
  rintro e w2 ⟨q, po, pc, wf, wo, n, wc, rfl, hB⟩
  have H2 : Hid (Ja7 w zeroP7 zeroW ((w2.alloc (.cells (pcmC q po pc) 24)).alloc (.cells #[.string wf, .slice wo n wc] 27))) := ((HJ0.out.next hB).next ((Below.refl _ _).alloc (Nat.le_refl _) _)).next ((Below.refl _ _).alloc (Nat.le_refl _) _)
  clear KP hB HJ0
  go_upto_region 3 with fail
  generalize hw3 : World.alloc (World.alloc w2 _) _ = w3
  have HZ : Hid (Ja7 w zeroP7 zeroW w3) := by
    rw [← hw3]
    exact H2.out
  clear hw3 H2
  have p0 := HZ.out.p 0 _ rfl
  have p1 := HZ.out.p 1 _ rfl
  have p2 := HZ.out.p 2 _ rfl
  have p3 := HZ.out.p 3 _ rfl
  have x0 := HZ.out.sk 0 _ rfl
  have x1 := HZ.out.sk 1 _ rfl
  have pz0 := HZ.out.pz 0
  have pz1 := HZ.out.pz 1
  have pz2 := HZ.out.pz 2
  have pz3 := HZ.out.pz 3
  have xz0 := HZ.out.wz 0
  have xz1 := HZ.out.wz 1
  have HW : Hid _ := HZ.out.self
  go_wp2_with fail
  rw [HW.out]
  exact bodyPost_ret (v := .tuple #[.agg zeroP7, .agg zeroW, .int .i64 E]) (res_parse7 rfl HZ.out.rp HZ.out.rw' rfl rfl _ _ rfl rfl rfl) rfl (HGB.out _ HZ.out.below)

set_option maxRecDepth 20000 in
set_option maxHeartbeats 6400000 in
theorem Parse7_yes (s : ByteArray) (w : World) (hs : s.size ≤ 140737488351232) (hE : p7E s = 0) :
    Calls Try.prog 4 #[.string s] w (GivesB7 w s) := by
  have HJ0 : Hid (Ja7 w zeroP7 zeroW ((w.alloc (.cells zeroP7 24)).alloc (.cells zeroW 27))) := Ja7.new2 w _ _
  have kp := fun wx => parse7_spec s wx hs
  have HGB : Hid (∀ q po pc wf l wo wc w', Below w.heap.size w w' → RowsAt w' po q.pl → ChksAt w' wo l → q = p7P s → wf = opF s → l = p7L s → GivesB7 w s (.returned (.tuple #[pcmV q po pc, .agg (waveC wf l wo wc), .int .i64 0])) w') := fun q po pc wf l wo wc w' hB hr hc e1 e2 e3 =>
    ⟨q, po, pc, wf, l, wo, wc, by rw [hE], hB, hr, hc, fun _ => ⟨e1, e2, e3⟩, fun q => absurd hE q⟩
  have KP : Hid (∀ wx, Calls Try.prog 7 #[.string s] wx fun e w' => ∃ q po pc wf l wo wc, e = .returned (.tuple #[pcmV q po pc, .agg (waveC wf l wo wc), .int .i64 0]) ∧ Below wx.heap.size wx w' ∧ Hid (q = p7P s ∧ RowsAt w' po q.pl ∧ wf = opF s ∧ l = p7L s ∧ ChksAt w' wo l ∧ Fresh wx.heap.size w' po q.pl ∧ FreshC wx.heap.size wo)) := fun wx => (kp wx).mono fun e w' h => by
    obtain ⟨q, po, pc, wf, wo, n, wc, e1, hB, hh⟩ := h
    obtain ⟨g1, g2, g3, g4, g5, g6⟩ := hh hE
    rw [hE, g5] at e1
    exact ⟨q, po, pc, wf, p7L s, wo, wc, e1, hB, g1, g2, g4, rfl, g6.at, g3, g6.fresh⟩
  clear kp hE
  go_enter Try.func4, Try.ntmps4
  go_wp2_with fail
  refine (KP.out _).mono ?_
  rintro e w2 ⟨q, po, pc, wf, l, wo, wc, rfl, hB, hh⟩
  have H2 : Hid (Ja7 w zeroP7 zeroW ((w2.alloc (.cells (pcmC q po pc) 24)).alloc (.cells (waveC wf l wo wc) 27)) ∧ ((w2.alloc (.cells (pcmC q po pc) 24)).alloc (.cells (waveC wf l wo wc) 27)).heap[w2.heap.size]? = some (.cells (pcmC q po pc) 24 (0, 0)) ∧ ((w2.alloc (.cells (pcmC q po pc) 24)).alloc (.cells (waveC wf l wo wc) 27)).heap[w2.heap.size + 1]? = some (.cells (waveC wf l wo wc) 27 (0, 0)) ∧ RowsAt ((w2.alloc (.cells (pcmC q po pc) 24)).alloc (.cells (waveC wf l wo wc) 27)) po q.pl ∧ FreshQ (w.heap.size + 2) ((w2.alloc (.cells (pcmC q po pc) 24)).alloc (.cells (waveC wf l wo wc) 27)) po q.pl ∧ ChksAt ((w2.alloc (.cells (pcmC q po pc) 24)).alloc (.cells (waveC wf l wo wc) 27)) wo l ∧ FreshC (w.heap.size + 2) wo ∧ w.heap.size + 1 < w2.heap.size) := by
    have hBB : Below w2.heap.size w2 ((w2.alloc (.cells (pcmC q po pc) 24)).alloc (.cells (waveC wf l wo wc) 27)) := ((Below.refl _ _).alloc (Nat.le_refl _) _).alloc (by simp) _
    have hsz : ((w.alloc (.cells zeroP7 24)).alloc (.cells zeroW 27)).heap.size = w.heap.size + 2 := by simp
    have hz := (HJ0.out.next hB).next hBB
    have hh2 := hh.out.2.2.2.2.2
    rw [hsz] at hh2
    refine ⟨hz, ?_, ?_, hh.out.2.1.below hBB, (FreshQ.of hh2.1).below hh.out.2.1 hBB, hh.out.2.2.2.2.1.below hBB, hh2.2, lt_of_block (HJ0.out.next hB).rw'⟩
    · exact (((Below.refl _ _).alloc (Nat.le_refl _) _).block _ (by simp)).trans (heap_alloc_new w2 _)
    · rw [← show (w2.alloc (.cells (pcmC q po pc) 24)).heap.size = w2.heap.size + 1 from by simp]
      exact heap_alloc_new _ _
  have HEQ : Hid (q = p7P s ∧ wf = opF s ∧ l = p7L s) := ⟨hh.out.1, hh.out.2.2.1, hh.out.2.2.2.1⟩
  clear KP hB HJ0 hh
  go_upto_region 4 with fail
  generalize hw3 : World.alloc (World.alloc w2 _) _ = w3
  have HZ : Hid (Ja7 w zeroP7 zeroW w3 ∧ w3.heap[w2.heap.size]? = some (.cells (pcmC q po pc) 24 (0, 0)) ∧ w3.heap[w2.heap.size + 1]? = some (.cells (waveC wf l wo wc) 27 (0, 0)) ∧ RowsAt w3 po q.pl ∧ FreshQ (w.heap.size + 2) w3 po q.pl ∧ ChksAt w3 wo l ∧ FreshC (w.heap.size + 2) wo ∧ w.heap.size + 1 < w2.heap.size) := by
    rw [← hw3]
    exact H2.out
  clear hw3 H2
  have lo := HZ.out.2.2.2.2.2.2.2
  generalize w2.heap.size = Q at *
  have a0 : w3.cell? ⟨Q, 0, none⟩ = some (.int .i64 q.rate) := by rw [cell_of_row _ _ _ _ _ _ HZ.out.2.1]; rfl
  have a1 : w3.cell? ⟨Q, 1, none⟩ = some (.int .i64 q.ch) := by rw [cell_of_row _ _ _ _ _ _ HZ.out.2.1]; rfl
  have a2 : w3.cell? ⟨Q, 2, none⟩ = some (.int .i64 q.wd) := by rw [cell_of_row _ _ _ _ _ _ HZ.out.2.1]; rfl
  have a3 : w3.cell? ⟨Q, 3, none⟩ = some (.slice po q.pl.length pc) := by rw [cell_of_row _ _ _ _ _ _ HZ.out.2.1]; rfl
  have b0 : w3.cell? ⟨Q + 1, 0, none⟩ = some (.string wf) := by rw [cell_of_row _ _ _ _ _ _ HZ.out.2.2.1]; rfl
  have b1 : w3.cell? ⟨Q + 1, 1, none⟩ = some (.slice wo l.length wc) := by rw [cell_of_row _ _ _ _ _ _ HZ.out.2.2.1]; rfl
  have p0 := HZ.out.1.p 0 _ rfl
  have p1 := HZ.out.1.p 1 _ rfl
  have p2 := HZ.out.1.p 2 _ rfl
  have p3 := HZ.out.1.p 3 _ rfl
  have x0 := HZ.out.1.sk 0 _ rfl
  have x1 := HZ.out.1.sk 1 _ rfl
  have pz0 := HZ.out.1.pz 0
  have pz1 := HZ.out.1.pz 1
  have pz2 := HZ.out.1.pz 2
  have pz3 := HZ.out.1.pz 3
  have xz0 := HZ.out.1.wz 0
  have xz1 := HZ.out.1.wz 1
  have HF : Hid (∀ wf', wf' = ((((((w3.setCell ⟨w.heap.size, 0, none⟩ (.int .i64 q.rate)).setCell ⟨w.heap.size, 1, none⟩ (.int .i64 q.ch)).setCell ⟨w.heap.size, 2, none⟩ (.int .i64 q.wd)).setCell ⟨w.heap.size, 3, none⟩ (.slice po q.pl.length pc)).setCell ⟨w.heap.size + 1, 0, none⟩ (.string wf)).setCell ⟨w.heap.size + 1, 1, none⟩ (.slice wo l.length wc)) → Ja7 w (pcmC q po pc) (waveC wf l wo wc) wf' ∧ RowsAt wf' po q.pl ∧ ChksAt wf' wo l) := fun wf' e => by
    subst e
    obtain ⟨j1, _, _, j4, j5, j6, j7, _⟩ := HZ.out
    refine ⟨(((((j1.setP 0 _).setP 1 _).setP 2 _).setP 3 _).setW 0 _).setW 1 _, ?_, ?_⟩
    · obtain ⟨m1, n1⟩ := j4.setQ j5 (a := ⟨w.heap.size, 0, none⟩) (by show w.heap.size < _; omega) (.int .i64 q.rate)
      obtain ⟨m2, n2⟩ := m1.setQ n1 (a := ⟨w.heap.size, 1, none⟩) (by show w.heap.size < _; omega) (.int .i64 q.ch)
      obtain ⟨m3, n3⟩ := m2.setQ n2 (a := ⟨w.heap.size, 2, none⟩) (by show w.heap.size < _; omega) (.int .i64 q.wd)
      obtain ⟨m4, n4⟩ := m3.setQ n3 (a := ⟨w.heap.size, 3, none⟩) (by show w.heap.size < _; omega) (.slice po q.pl.length pc)
      obtain ⟨m5, n5⟩ := m4.setQ n4 (a := ⟨w.heap.size + 1, 0, none⟩) (by show w.heap.size + 1 < _; omega) (.string wf)
      exact (m5.setQ n5 (a := ⟨w.heap.size + 1, 1, none⟩) (by show w.heap.size + 1 < _; omega) _).1
    · exact (((((j6.setOther j7 (a := ⟨w.heap.size, 0, none⟩) (by show w.heap.size < _; omega) _).setOther j7 (a := ⟨w.heap.size, 1, none⟩) (by show w.heap.size < _; omega) _).setOther j7 (a := ⟨w.heap.size, 2, none⟩) (by show w.heap.size < _; omega) _).setOther j7 (a := ⟨w.heap.size, 3, none⟩) (by show w.heap.size < _; omega) _).setOther j7 (a := ⟨w.heap.size + 1, 0, none⟩) (by show w.heap.size + 1 < _; omega) _).setOther j7 (a := ⟨w.heap.size + 1, 1, none⟩) (by show w.heap.size + 1 < _; omega) _
  go_region
  all_goals go_wp2_with fail
  all_goals (generalize hwz : World.setCell _ _ _ = wz; obtain ⟨g1, g2, g3⟩ := HF.out wz hwz.symm; exact bodyPost_ret (v := .tuple #[pcmV q po pc, .agg (waveC wf l wo wc), .int .i64 0]) (res_parse7 rfl (show wz.drew.heap[w.heap.size]? = _ from g1.rp) (show wz.drew.heap[w.heap.size + 1]? = _ from g1.rw') rfl rfl _ _ rfl rfl rfl) rfl (HGB.out q po pc wf l wo wc _ (g1.below.trans ⟨rfl, rfl, rfl, Nat.le_refl _, fun _ _ => rfl⟩) (g2.keep (fun _ _ => rfl)) (g3.below ⟨rfl, rfl, rfl, Nat.le_refl _, fun _ _ => rfl⟩) HEQ.out.1 HEQ.out.2.1 HEQ.out.2.2))
theorem Parse7_spec (s : ByteArray) (w : World) (hs : s.size ≤ 140737488351232) : Calls Try.prog 4 #[.string s] w (GivesB7 w s) := by
  by_cases h : p7E s = 0
  · exact Parse7_yes s w hs h
  · exact Parse7_no s w hs h

end Go.Proofs.Ytaepgjheknkojaa
