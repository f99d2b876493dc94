/- Own text: the walk of parse. -/
import Derived.Test.YtfnkdahocehilaaGreatG38x
namespace Go.Proofs.YtfnkdahocehilaaGreat
open Go.RowKit
set_option linter.unusedSimpArgs false
set_option linter.unusedVariables false

theorem readN_smp (N : Nat) : ∀ (n : Nat) (f : Fst) (l : List Chk) (s : ByteArray), f.smp.size ≤ N → s.size ≤ N → (readN n f l s).1.smp.size ≤ N
  | 0, f, l, s, hf, _ => hf
  | n + 1, f, l, s, hf, hs => by
    rw [readN]
    split
    · exact hf
    · split
      · split
        · exact hf
        · rename_i h0 hb hl
          have hc := (begC_sizes f.z s).2
          have hr := begR_size f.z s hb
          split
          · exact readN_smp N n _ _ _ (takeN_smp f _ N hf (by omega)) (by omega)
          · exact takeN_smp f _ N hf (by omega)
      · exact hf
theorem readR_smp (s : ByteArray) (h : s.size ≤ 67108864) : (readR s).1.smp.size ≤ MM :=
  readN_smp MM _ _ _ _ (by show (0 : Nat) ≤ _; omega) (by rw [ByteArray.size_extract]; show _ ≤ 140737488351232; omega)

theorem okf0 (s : ByteArray) : OkF (f0 s) := ⟨fun h => (by cases h), fun h => (by cases h)⟩
set_option maxRecDepth 20000 in
set_option maxHeartbeats 6400000 in
theorem parse_head (s : ByteArray) (w : World) (h1 : 12 ≤ s.size) (h2 : s.size ≤ 67108864) (hq : ((headN (f0 s)).2 && (s.extract 0 12).toList == (headN (f0 s)).1.toList) = false) :
    Calls Tryz.prog 28 #[.string s] w (GivesA w s) := by
  have HE : Hid (parE s = 2) := by show _ = _; unfold parE; rw [if_neg (by omega), if_neg (by omega), hq]; rfl
  have HJ : Hid (Jz w zeroP zeroW ((w.alloc (.cells zeroP 37)).alloc (.cells zeroW 39))) := Jz.new w
  have kc := fun wx => clone_spec (s.extract 0 4) wx (by rw [ext_size _ _ _ (by omega) (by omega)]; decide)
  have hs12 : ∀ w, (Instr.slice 9 (.string s) none (some (.int .i64 12)) none).run Tryz.prog w = .ok (.string (s.extract 0 12)) w := fun w => slice_upto s 12 (by omega) w
  have hsr : ∀ w, (Instr.slice 9 (.string s) (some (.int .i64 12)) none none).run Tryz.prog w = .ok (.string (s.extract 12 s.size)) w := fun w => slice_from s 12 (by omega) w
  have hfs : (f0 s).form.size ≤ 140737488355328 := by
    show (s.extract 0 4).size ≤ _
    rw [ext_size _ _ _ (by omega) (by omega)]
    decide
  have kh := fun b wx h => head_spec (f0 s) b wx h hfs (by show _ ≤ (s.size : Int) - 8; omega) (by show (s.size : Int) - 8 ≤ _; omega)
  clear hfs
  generalize (headN (f0 s)).1 = HT at *
  generalize (headN (f0 s)).2 = HO at *
  cases HO
  · go_enter Tryz.func28, Tryz.ntmps28
    go_wp2_with fail
    refine (kc _).mono ?_
    rintro e w2 ⟨rfl, hB2⟩
    have HJ2 : Hid (Jz w zeroP zeroW w2) := HJ.out.next hB2
    clear kc hB2 HJ
    go_wp2_with fail
    generalize hw3 : World.alloc w2 _ = w3
    have H3 : Hid (Fa w2.heap.size (f0 s) w3 ∧ Jz w zeroP zeroW w3 ∧ w.heap.size + 1 < w2.heap.size) := by
      rw [← hw3]
      exact ⟨⟨heap_alloc_new w2 _⟩, HJ2.out.next ((Below.refl _ _).alloc (Nat.le_refl _) _), lt_of_block HJ2.out.rw'⟩
    generalize w2.heap.size = b at *
    clear hw3 HJ2
    refine (kh b w3 H3.out.1).mono ?_
    rintro e w4 ⟨rfl, hB4⟩
    have H4 : Hid (Fa b (f0 s) w4 ∧ Jz w zeroP zeroW w4 ∧ w.heap.size + 1 < b) := ⟨H3.out.1.next hB4, H3.out.2.1.next hB4, H3.out.2.2⟩
    clear kh hB4 H3
    have HZ : Hid (Jz w zeroP zeroW w4) := H4.out.2.1
    go_wp2_with fail
    have p0 := HZ.out.p 0 _ rfl
    have p1 := HZ.out.p 1 _ rfl
    have p2 := HZ.out.p 2 _ rfl
    have p3 := HZ.out.p 3 _ rfl
    have w0' := HZ.out.sk 0 _ rfl
    have w1' := HZ.out.sk 1 _ rfl
    have pz0 := HZ.out.pz 0
    have pz1 := HZ.out.pz 1
    have pz2 := HZ.out.pz 2
    have pz3 := HZ.out.pz 3
    have wz0 := HZ.out.wz 0
    have wz1 := HZ.out.wz 1
    have HWX := HZ.out.self
    have HWW : Hid _ := HWX
    clear HWX
    go_region
    all_goals go_wp2_with fail
    all_goals (rw [HWW.out]; exact bodyPost_ret (v := .tuple #[.agg zeroP, .agg zeroW, .int .i64 2]) (res_parse rfl (show w4.drew.heap[w.heap.size]? = _ from HZ.out.rp) (show w4.drew.heap[w.heap.size + 1]? = _ from HZ.out.rw') rfl rfl _ _ rfl rfl rfl) rfl ⟨⟨0, 0, 0, []⟩, none, 0, ⟨#[]⟩, [], none, 0, by rw [HE.out]; rfl, HZ.out.below.trans ⟨rfl, rfl, rfl, Nat.le_refl _, fun _ _ => rfl⟩, fun q => by rw [HE.out] at q; cases q⟩)
  · have hq2 : ((s.extract 0 12).toList == HT.toList) = false := hq
    clear hq
    go_enter Tryz.func28, Tryz.ntmps28
    go_wp2_with fail
    refine (kc _).mono ?_
    rintro e w2 ⟨rfl, hB2⟩
    have HJ2 : Hid (Jz w zeroP zeroW w2) := HJ.out.next hB2
    clear kc hB2 HJ
    go_wp2_with fail
    generalize hw3 : World.alloc w2 _ = w3
    have H3 : Hid (Fa w2.heap.size (f0 s) w3 ∧ Jz w zeroP zeroW w3 ∧ w.heap.size + 1 < w2.heap.size) := by
      rw [← hw3]
      exact ⟨⟨heap_alloc_new w2 _⟩, HJ2.out.next ((Below.refl _ _).alloc (Nat.le_refl _) _), lt_of_block HJ2.out.rw'⟩
    generalize w2.heap.size = b at *
    clear hw3 HJ2
    refine (kh b w3 H3.out.1).mono ?_
    rintro e w4 ⟨rfl, hB4⟩
    have H4 : Hid (Fa b (f0 s) w4 ∧ Jz w zeroP zeroW w4 ∧ w.heap.size + 1 < b) := ⟨H3.out.1.next hB4, H3.out.2.1.next hB4, H3.out.2.2⟩
    clear kh hB4 H3
    have HZ : Hid (Jz w zeroP zeroW w4) := H4.out.2.1
    go_wp2_with fail
    have p0 := HZ.out.p 0 _ rfl
    have p1 := HZ.out.p 1 _ rfl
    have p2 := HZ.out.p 2 _ rfl
    have p3 := HZ.out.p 3 _ rfl
    have w0' := HZ.out.sk 0 _ rfl
    have w1' := HZ.out.sk 1 _ rfl
    have pz0 := HZ.out.pz 0
    have pz1 := HZ.out.pz 1
    have pz2 := HZ.out.pz 2
    have pz3 := HZ.out.pz 3
    have wz0 := HZ.out.wz 0
    have wz1 := HZ.out.wz 1
    have HWX := HZ.out.self
    have HWW : Hid _ := HWX
    clear HWX
    go_region
    all_goals go_wp2_with fail
    all_goals (rw [HWW.out]; exact bodyPost_ret (v := .tuple #[.agg zeroP, .agg zeroW, .int .i64 2]) (res_parse rfl (show w4.drew.heap[w.heap.size]? = _ from HZ.out.rp) (show w4.drew.heap[w.heap.size + 1]? = _ from HZ.out.rw') rfl rfl _ _ rfl rfl rfl) rfl ⟨⟨0, 0, 0, []⟩, none, 0, ⟨#[]⟩, [], none, 0, by rw [HE.out]; rfl, HZ.out.below.trans ⟨rfl, rfl, rfl, Nat.le_refl _, fun _ _ => rfl⟩, fun q => by rw [HE.out] at q; cases q⟩)

theorem Fresh.drew {B : Nat} {w : World} {ao : Option Addr} {xs : List (List Int)} (h : Fresh B w ao xs) : Fresh B w.drew ao xs := ⟨h.own, h.rows⟩
theorem ChksAt.setOther {w : World} {ao : Option Addr} {l : List Chk} (h : ChksAt w ao l) {B : Nat} (hf : FreshC B ao) {a : Addr} (ha : a.block < B) (u : Value) : ChksAt (w.setCell a u) ao l := by
  refine ⟨fun h0 => ?_⟩
  obtain ⟨b', off, e, hc⟩ := h.lies h0
  refine ⟨b', off, e, fun i c hi => ?_⟩
  obtain ⟨h0, h1, h2⟩ := hc i c hi
  have hb := hf b' off e
  have k : ∀ o, (w.setCell a u).cell? ⟨b', o, .none⟩ = w.cell? ⟨b', o, .none⟩ := fun o => World.cell?_of_block (w := w) (Below.heap_setCell _ _ _ _ (by show b' ≠ a.block; omega))
  exact ⟨by rw [k]; exact h0, by rw [k]; exact h1, by rw [k]; exact h2⟩

set_option maxRecDepth 20000 in
set_option maxHeartbeats 6400000 in
theorem parse_main (s : ByteArray) (w : World) (h1 : 12 ≤ s.size) (h2 : s.size ≤ 67108864) (hq : ((headN (f0 s)).2 && (s.extract 0 12).toList == (headN (f0 s)).1.toList) = true) :
    Calls Tryz.prog 28 #[.string s] w (GivesA w s) := by
  have HEE : Hid (parE s = if (readR s).2.2 = 0 then fE (readR s).1 else (readR s).2.2) := by show _ = _; unfold parE; rw [if_neg (by omega), if_neg (by omega), hq]; rfl
  have HJ : Hid (Jz w zeroP zeroW ((w.alloc (.cells zeroP 37)).alloc (.cells zeroW 39))) := Jz.new w
  have kc := fun wx => clone_spec (s.extract 0 4) wx (by rw [ext_size _ _ _ (by omega) (by omega)]; decide)
  have hs12 : ∀ w, (Instr.slice 9 (.string s) none (some (.int .i64 12)) none).run Tryz.prog w = .ok (.string (s.extract 0 12)) w := fun w => slice_upto s 12 (by omega) w
  have hsr : ∀ w, (Instr.slice 9 (.string s) (some (.int .i64 12)) none none).run Tryz.prog w = .ok (.string (s.extract 12 s.size)) w := fun w => slice_from s 12 (by omega) w
  have hfs : (f0 s).form.size ≤ 140737488355328 := by
    show (s.extract 0 4).size ≤ _
    rw [ext_size _ _ _ (by omega) (by omega)]
    decide
  have kh := fun b wx h => head_spec (f0 s) b wx h hfs (by show _ ≤ (s.size : Int) - 8; omega) (by show (s.size : Int) - 8 ≤ _; omega)
  clear hfs
  have kr : ∀ b wx, Fa b (f0 s) wx → Calls Tryz.prog 59 #[.pointer (some ⟨b, 0, none⟩), .string (s.extract 12 s.size)] wx fun e w' => ∃ ao cap, e = .returned (.tuple #[.slice ao (readR s).2.1.length cap, .int .i64 (readR s).2.2]) ∧ ChksAt w' ao (readR s).2.1 ∧ Fa b (readR s).1 w' ∧ But b wx w' ∧ FreshC wx.heap.size ao := fun b wx hx =>
    read_spec (f0 s) (s.extract 12 s.size) b wx (by rw [ext_size _ _ _ (by omega) (Nat.le_refl _)]; show _ ≤ 140737488351232; omega) hx (okf0 s) rfl (by show (0 : Nat) ≤ _; omega)
  have HSM : Hid ((readR s).1.smp.size ≤ MM) := readR_smp s h2
  have kp : ∀ b wx, Fa b (readR s).1 wx → Calls Tryz.prog 60 #[.pointer (some ⟨b, 0, none⟩)] wx fun e w' => GivesP wx (fP (readR s).1) (fE (readR s).1) e w' := fun b wx hx => fpcm_spec _ b wx hx HSM.out
  have HQ0 : Hid (fE (readR s).1 ≠ 0 → fP (readR s).1 = ⟨0, 0, 0, []⟩) := fun hn => by show uP _ _ _ _ _ _ = _; unfold uP; exact if_neg hn
  generalize (headN (f0 s)).1 = HT at *
  generalize (headN (f0 s)).2 = HO at *
  cases HO
  · cases hq
  · have hq2 : ((s.extract 0 12).toList == HT.toList) = true := hq
    clear hq HSM
    have HRF : Hid (∀ q po pc wf l wo wc, q = fP (readR s).1 → wf = s.extract 0 4 → l = (readR s).2.1 → parE s = fE (readR s).1 → ∀ w', Below w.heap.size w w' → RowsAt w' po q.pl → ChksAt w' wo l → Fresh w.heap.size w' po q.pl → FreshC w.heap.size wo → GivesA w s (.returned (.tuple #[pcmV q po pc, .agg (waveC wf l wo wc), .int .i64 (fE (readR s).1)])) w') := fun q po pc wf l wo wc e1 e2 e3 e4 w' hB hr hc hf hg => ⟨q, po, pc, wf, l, wo, wc, by rw [e4], hB, fun _ => ⟨e1, hr, e2, e3, hc, hf, hg⟩⟩
    have HRE : Hid (∀ l wo wc, parE s = (readR s).2.2 → (readR s).2.2 ≠ 0 → ∀ w', Below w.heap.size w w' → GivesA w s (.returned (.tuple #[.agg zeroP, .agg #[.string (s.extract 0 4), .slice wo (l : List Chk).length wc], .int .i64 (readR s).2.2])) w') := fun l wo wc e4 hn w' hB => ⟨⟨0, 0, 0, []⟩, none, 0, _, l, wo, wc, by rw [e4]; rfl, hB, fun q => absurd (e4.symm.trans q) hn⟩
    generalize hR1 : (readR s).1 = R1 at *
    generalize hR2 : (readR s).2.1 = R2 at *
    generalize hR3 : (readR s).2.2 = R3 at *
    clear hR1 hR2 hR3
    go_enter Tryz.func28, Tryz.ntmps28
    go_wp2_with fail
    refine (kc _).mono ?_
    rintro e w2 ⟨rfl, hB2⟩
    have HJ2 : Hid (Jz w zeroP zeroW w2) := HJ.out.next hB2
    clear kc hB2 HJ
    go_wp2_with fail
    generalize hw3 : World.alloc w2 _ = w3
    have H3 : Hid (Fa w2.heap.size (f0 s) w3 ∧ Jz w zeroP zeroW w3 ∧ w.heap.size + 1 < w2.heap.size) := by
      rw [← hw3]
      exact ⟨⟨heap_alloc_new w2 _⟩, HJ2.out.next ((Below.refl _ _).alloc (Nat.le_refl _) _), lt_of_block HJ2.out.rw'⟩
    generalize w2.heap.size = b at *
    clear hw3 HJ2
    refine (kh b w3 H3.out.1).mono ?_
    rintro e w4 ⟨rfl, hB4⟩
    have H4 : Hid (Fa b (f0 s) w4 ∧ Jz w zeroP zeroW w4 ∧ w.heap.size + 1 < b) := ⟨H3.out.1.next hB4, H3.out.2.1.next hB4, H3.out.2.2⟩
    clear kh hB4 H3
    have c3 : w4.cell? ⟨b, 3, none⟩ = some (.string (s.extract 0 4)) := H4.out.1.c 3 _ rfl
    have x0 := H4.out.2.1.sk 0 _ rfl
    have xz0 := H4.out.2.1.wz 0
    have lo := H4.out.2.2
    have H5 : Hid (Fa b (f0 s) (w4.setCell ⟨w.heap.size + 1, 0, none⟩ (.string (s.extract 0 4))) ∧ Jz w zeroP #[.string (s.extract 0 4), .slice none 0 0] (w4.setCell ⟨w.heap.size + 1, 0, none⟩ (.string (s.extract 0 4)))) := by
      refine ⟨⟨?_⟩, H4.out.2.1.setW 0 _⟩
      rw [Below.heap_setCell _ _ _ _ (by show b ≠ w.heap.size + 1; omega)]
      exact H4.out.1.at'
    clear H4
    go_wp2_with fail
    generalize w4.setCell ⟨w.heap.size + 1, 0, none⟩ (.string (s.extract 0 4)) = w5 at *
    refine (kr b w5 H5.out.1).mono ?_
    rintro e w6 ⟨ao, cap, rfl, hc6, hf6, hb6, hfr6⟩
    have H6 : Hid (Fa b R1 w6 ∧ Jz w zeroP #[.string (s.extract 0 4), .slice none 0 0] w6 ∧ ChksAt w6 ao R2 ∧ FreshC w5.heap.size ao) := ⟨hf6, H5.out.2.but lo hb6, hc6, hfr6⟩
    have H7 : Hid (Fa b R1 (w6.setCell ⟨w.heap.size + 1, 1, none⟩ (.slice ao R2.length cap)) ∧ Jz w zeroP #[.string (s.extract 0 4), .slice ao R2.length cap] (w6.setCell ⟨w.heap.size + 1, 1, none⟩ (.slice ao R2.length cap)) ∧ ChksAt (w6.setCell ⟨w.heap.size + 1, 1, none⟩ (.slice ao R2.length cap)) ao R2 ∧ FreshC w5.heap.size ao ∧ w.heap.size + 1 < w5.heap.size) := by
      refine ⟨⟨?_⟩, H6.out.2.1.setW 1 _, H6.out.2.2.1.setOther H6.out.2.2.2 (a := ⟨w.heap.size + 1, 1, none⟩) (lt_of_block H5.out.2.rw') _, H6.out.2.2.2, lt_of_block H5.out.2.rw'⟩
      rw [Below.heap_setCell _ _ _ _ (by show b ≠ w.heap.size + 1; omega)]
      exact H6.out.1.at'
    have x1 := H6.out.2.1.sk 1 _ rfl
    have xz1 := H6.out.2.1.wz 1
    clear kr hc6 hf6 hb6 hfr6 H6 c3 x0 xz0
    cases hE : R3 != 0
    · have hE0 : R3 = 0 := by simpa using hE
      have HE : Hid (parE s = fE R1) := HEE.out.trans (if_pos hE0)
      clear HRE HEE hE0
      go_wp2_with fail
      generalize w6.setCell ⟨w.heap.size + 1, 1, none⟩ (.slice ao R2.length cap) = w7 at *
      refine (kp b w7 H7.out.1).mono ?_
      rintro e w8 ⟨po, pc, rfl, hr8, hfr8, hB8⟩
      have H8 : Hid (Jz w zeroP #[.string (s.extract 0 4), .slice ao R2.length cap] w8 ∧ ChksAt w8 ao R2 ∧ RowsAt w8 po (fP R1).pl ∧ Fresh w7.heap.size w8 po (fP R1).pl ∧ FreshC w5.heap.size ao ∧ w.heap.size + 1 < w5.heap.size ∧ w.heap.size + 1 < w7.heap.size) := ⟨H7.out.2.1.next hB8, H7.out.2.2.1.below hB8, hr8, hfr8, H7.out.2.2.2.1, H7.out.2.2.2.2, lt_of_block H7.out.2.1.rw'⟩
      clear kp hr8 hfr8 hB8 H7 H5 HQ0 x1 xz1
      generalize fP R1 = q at *
      have H9 : Hid (Jz w (pcmC q po pc) #[.string (s.extract 0 4), .slice ao R2.length cap] ((((w8.setCell ⟨w.heap.size, 0, none⟩ (.int .i64 q.rate)).setCell ⟨w.heap.size, 1, none⟩ (.int .i64 q.ch)).setCell ⟨w.heap.size, 2, none⟩ (.int .i64 q.wd)).setCell ⟨w.heap.size, 3, none⟩ (.slice po q.pl.length pc)) ∧ RowsAt ((((w8.setCell ⟨w.heap.size, 0, none⟩ (.int .i64 q.rate)).setCell ⟨w.heap.size, 1, none⟩ (.int .i64 q.ch)).setCell ⟨w.heap.size, 2, none⟩ (.int .i64 q.wd)).setCell ⟨w.heap.size, 3, none⟩ (.slice po q.pl.length pc)) po q.pl ∧ ChksAt ((((w8.setCell ⟨w.heap.size, 0, none⟩ (.int .i64 q.rate)).setCell ⟨w.heap.size, 1, none⟩ (.int .i64 q.ch)).setCell ⟨w.heap.size, 2, none⟩ (.int .i64 q.wd)).setCell ⟨w.heap.size, 3, none⟩ (.slice po q.pl.length pc)) ao R2 ∧ Fresh w.heap.size ((((w8.setCell ⟨w.heap.size, 0, none⟩ (.int .i64 q.rate)).setCell ⟨w.heap.size, 1, none⟩ (.int .i64 q.ch)).setCell ⟨w.heap.size, 2, none⟩ (.int .i64 q.wd)).setCell ⟨w.heap.size, 3, none⟩ (.slice po q.pl.length pc)) po q.pl ∧ FreshC w.heap.size ao) := by
        obtain ⟨j1, j2, j3, j4, j5, j6, j7⟩ := H8.out
        obtain ⟨a1, a2⟩ := j3.setLow j4 (a := ⟨w.heap.size, 0, none⟩) (by show w.heap.size < _; omega) (.int .i64 q.rate)
        obtain ⟨b1, b2⟩ := a1.setLow a2 (a := ⟨w.heap.size, 1, none⟩) (by show w.heap.size < _; omega) (.int .i64 q.ch)
        obtain ⟨d1, d2⟩ := b1.setLow b2 (a := ⟨w.heap.size, 2, none⟩) (by show w.heap.size < _; omega) (.int .i64 q.wd)
        obtain ⟨g1, g2⟩ := d1.setLow d2 (a := ⟨w.heap.size, 3, none⟩) (by show w.heap.size < _; omega) (.slice po q.pl.length pc)
        refine ⟨(((j1.setP 0 _).setP 1 _).setP 2 _).setP 3 _, g1, ?_, g2.mono (by omega), fun b' off e => by have := j5 b' off e; omega⟩
        exact (((j2.setOther j5 (a := ⟨w.heap.size, 0, none⟩) (by show w.heap.size < _; omega) _).setOther j5 (a := ⟨w.heap.size, 1, none⟩) (by show w.heap.size < _; omega) _).setOther j5 (a := ⟨w.heap.size, 2, none⟩) (by show w.heap.size < _; omega) _).setOther j5 (a := ⟨w.heap.size, 3, none⟩) (by show w.heap.size < _; omega) _
      have y0 := H8.out.1.p 0 _ rfl
      have y1 := H8.out.1.p 1 _ rfl
      have y2 := H8.out.1.p 2 _ rfl
      have y3 := H8.out.1.p 3 _ rfl
      have yz0 := H8.out.1.pz 0
      have yz1 := H8.out.1.pz 1
      have yz2 := H8.out.1.pz 2
      have yz3 := H8.out.1.pz 3
      clear H8
      go_wp2_with fail
      generalize ((((w8.setCell ⟨w.heap.size, 0, none⟩ (.int .i64 q.rate)).setCell ⟨w.heap.size, 1, none⟩ (.int .i64 q.ch)).setCell ⟨w.heap.size, 2, none⟩ (.int .i64 q.wd)).setCell ⟨w.heap.size, 3, none⟩ (.slice po q.pl.length pc)) = w9 at *
      have HZ : Hid (Jz w (pcmC q po pc) #[.string (s.extract 0 4), .slice ao R2.length cap] w9) := H9.out.1
      clear y0 y1 y2 y3 yz0 yz1 yz2 yz3
      have p0 := HZ.out.p 0 _ rfl
      have p1 := HZ.out.p 1 _ rfl
      have p2 := HZ.out.p 2 _ rfl
      have p3 := HZ.out.p 3 _ rfl
      have w0' := HZ.out.sk 0 _ rfl
      have w1' := HZ.out.sk 1 _ rfl
      have pz0 := HZ.out.pz 0
      have pz1 := HZ.out.pz 1
      have pz2 := HZ.out.pz 2
      have pz3 := HZ.out.pz 3
      have wz0 := HZ.out.wz 0
      have wz1 := HZ.out.wz 1
      have HWX := HZ.out.self
      have HWW : Hid _ := HWX
      clear HWX
      go_region
      all_goals go_wp2_with fail
      all_goals (rw [HWW.out]; exact bodyPost_ret (v := .tuple #[.agg (pcmC q po pc), .agg #[.string (s.extract 0 4), .slice ao R2.length cap], .int .i64 (fE R1)]) (res_parse rfl (show w9.drew.heap[w.heap.size]? = _ from HZ.out.rp) (show w9.drew.heap[w.heap.size + 1]? = _ from HZ.out.rw') rfl rfl _ _ rfl rfl rfl) rfl (HRF.out q po pc (s.extract 0 4) R2 ao cap rfl rfl rfl HE.out _ (HZ.out.below.trans ⟨rfl, rfl, rfl, Nat.le_refl _, fun _ _ => rfl⟩) (H9.out.2.1.keep (fun _ _ => rfl)) (H9.out.2.2.1.below ⟨rfl, rfl, rfl, Nat.le_refl _, fun _ _ => rfl⟩) H9.out.2.2.2.1.drew H9.out.2.2.2.2))
    · have hn : R3 ≠ 0 := by simpa using hE
      have HE : Hid (parE s = R3) := HEE.out.trans (if_neg hn)
      have HN : Hid (R3 ≠ 0) := hn
      clear HEE hn HRF kp
      go_wp2_with fail
      generalize w6.setCell ⟨w.heap.size + 1, 1, none⟩ (.slice ao R2.length cap) = w7 at *
      have HZ : Hid (Jz w zeroP #[.string (s.extract 0 4), .slice ao R2.length cap] w7) := H7.out.2.1
      clear x1 xz1 H7 H5
      have p0 := HZ.out.p 0 _ rfl
      have p1 := HZ.out.p 1 _ rfl
      have p2 := HZ.out.p 2 _ rfl
      have p3 := HZ.out.p 3 _ rfl
      have w0' := HZ.out.sk 0 _ rfl
      have w1' := HZ.out.sk 1 _ rfl
      have pz0 := HZ.out.pz 0
      have pz1 := HZ.out.pz 1
      have pz2 := HZ.out.pz 2
      have pz3 := HZ.out.pz 3
      have wz0 := HZ.out.wz 0
      have wz1 := HZ.out.wz 1
      have HWX := HZ.out.self
      have HWW : Hid _ := HWX
      clear HWX
      go_region
      all_goals go_wp2_with fail
      all_goals (rw [HWW.out]; exact bodyPost_ret (v := .tuple #[.agg zeroP, .agg #[.string (s.extract 0 4), .slice ao R2.length cap], .int .i64 R3]) (res_parse rfl (show w7.drew.heap[w.heap.size]? = _ from HZ.out.rp) (show w7.drew.heap[w.heap.size + 1]? = _ from HZ.out.rw') rfl rfl _ _ rfl rfl rfl) rfl (HRE.out R2 ao cap HE.out HN.out _ (HZ.out.below.trans ⟨rfl, rfl, rfl, Nat.le_refl _, fun _ _ => rfl⟩)))

theorem parse_spec (s : ByteArray) (w : World) : Calls Tryz.prog 28 #[.string s] w (GivesA w s) := by
  by_cases h1 : 67108864 < s.size
  · exact parse_large s w h1
  · by_cases h2 : s.size < 12
    · exact parse_short s w h2
    · cases hq : (headN (f0 s)).2 && (s.extract 0 12).toList == (headN (f0 s)).1.toList
      · exact parse_head s w (by omega) (by omega) hq
      · exact parse_main s w (by omega) (by omega) hq

end Go.Proofs.YtfnkdahocehilaaGreat
